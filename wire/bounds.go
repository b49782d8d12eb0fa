package wire

// How a number lies in bytes.
const (
	bitsOfByte = 7
	more       = 1 << bitsOfByte // what is added to all bytes but the last one
	lowBits    = more - 1
	mostBytes  = 6 // MaxNumber has 41 bits
)

// maxWrites is how many Writes a command may have: the chapter gives that bound no name.
const maxWrites = 20

// kindsRound: of a command's Kind, as a number, only what is left of it modulo this is looked at.
const kindsRound = 8
