package page

// The markup between the texts of a page. Writer and reader take it from here, so that the one reads just what the other writes.
const (
	pageHead  = "<!DOCTYPE html>\n<html lang=\"en\">\n<head>\n<meta charset=\"utf-8\">\n<title>"
	pageTitle = "</title>\n</head>\n<body>\n<h1>"
	pageBody  = "</h1>\n"
	pageEnd   = "</body>\n</html>\n"

	lineHead = "<p>"
	lineEnd  = "</p>\n"

	formHead   = "<form method=\"post\" action=\""
	formInputs = "\">\n"
	formButton = "<p><button type=\"submit\">"
	formEnd    = "</button></p>\n</form>\n"

	hiddenName = "<input type=\"hidden\" name=\""
	hiddenEnd  = "\">\n"

	labelHead = "<p><label>"
	labelEnd  = "</label></p>\n"

	// The blank between a label and its input belongs to the markup: a label may have blanks of its own at its ends.
	textName   = " <input type=\"text\" name=\""
	secretName = " <input type=\"password\" name=\""
	boxName    = "<input type=\"checkbox\" name=\""
	boxLabel   = "\" checked> "

	inputValue = "\" value=\""
	inputEnd   = "\">"
)
