package wire

// How a number lies in bytes.
const (
	bitsOfByte = 7
	more       = 1 << bitsOfByte // what is added to all bytes but the last one
	lowBits    = more - 1
	mostBytes  = 6 // MaxNumber has 41 bits
)

// maxWrites is how many Writes a command may have: the chapter gives that bound no name.
const maxWrites = 20

// kindBits: of a command's Kind, as a number, only what is left of it modulo 8 is looked at. Bits tell that from 0 to 7
// also of a Kind below 0, where % would leave one below 0.
const kindBits = 7
