// Package sums: CRC-32, SHA-256, HMAC-SHA-256 and stretched passwords: see DOC.md, layer 1.
package sums

// crcSteps holds, for each value of the register's lowest four bits, what taking in four zero bits xors into the rest of it. Four bits at a time keep the table short; a whole byte at a time would need 256 words.
var crcSteps = [16]uint32{
	0x00000000, 0x1db71064, 0x3b6e20c8, 0x26d930ac,
	0x76dc4190, 0x6b6b51f4, 0x4db26158, 0x5005713c,
	0xedb88320, 0xf00f9344, 0xd6d6a3e8, 0xcb61b38c,
	0x9b64c2b0, 0x86d3d2d4, 0xa00ae278, 0xbdbdf21c,
}

// Crc is the CRC-32 of p.
func Crc(p string) uint32 { return CrcMore(0, p) }

// CrcMore goes on with a CRC-32: of what came before and p behind it.
func CrcMore(crc uint32, p string) uint32 {
	register := ^crc
	for i := 0; i < len(p); i++ {
		register = takeByte(register, p[i])
	}
	return ^register
}

// takeByte xors the byte in ahead of the shifts: a bit decides by whether it is unlike the register's lowest one, so all eight may be laid over it at once.
func takeByte(register uint32, b byte) uint32 {
	register ^= uint32(b)
	register = register>>4 ^ crcSteps[register&15]
	return register>>4 ^ crcSteps[register&15]
}
