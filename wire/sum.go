package wire

const (
	sumStart = 0xFFFFFFFF
	sumTurn  = 0xEDB88320
)

// sumTable has for each half of a byte what four halvings make of it. What they
// make of a number is what they make of its lowest four bits, ^ the others moved
// down: so one look here takes the place of four steps.
var sumTable = func() [16]uint32 {
	var table [16]uint32
	for i := range table {
		n := uint32(i)
		for range 4 {
			low := n & 1
			n >>= 1
			if low == 1 {
				n ^= sumTurn
			}
		}
		table[i] = n
	}
	return table
}()

// Sum tells a sum of bytes (A3).
func Sum(data string) string {
	n := uint32(sumStart)
	for i := range len(data) {
		n ^= uint32(data[i])
		n = n>>4 ^ sumTable[n&15]
		n = n>>4 ^ sumTable[n&15]
	}
	n ^= sumStart
	return string([]byte{byte(n), byte(n >> 8), byte(n >> 16), byte(n >> 24)})
}
