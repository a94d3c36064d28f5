import Derived.Test.YthpickmiohakbaaDoorMacWalks
import Derived.Stop.LaidErr
