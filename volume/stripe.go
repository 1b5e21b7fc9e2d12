package volume

import (
	"slices"

	"stripes/api"
	"stripes/code"
	"stripes/program"
	"stripes/record"
	"stripes/set"
)

// WriteStripe writes a stripe of at most StripeSize bytes; those that lack are 0. It answers ErrLost, if so many drives are lost that it could not be read again.
func (v *Volume) WriteStripe(block int, data []byte) error {
	shards, err := code.Encode(v.params, v.cut(data))
	if err != nil {
		return err
	}
	var lost set.Set
	for drive, shard := range shards {
		if v.Write(drive, block, record.Shard{Bytes: [record.ShardSize]byte(shard)}) != nil {
			lost = lost.With(drive)
		}
	}
	if lost != 0 && !code.Decodable(v.params, uint64(lost)) {
		return api.ErrLost
	}
	return nil
}

// cut makes the data shards of a stripe.
func (v *Volume) cut(data []byte) [][]byte {
	whole := make([]byte, v.StripeSize())
	copy(whole, data)
	return slices.Collect(slices.Chunk(whole, record.ShardSize))
}

// stripe is one that is being read.
type stripe struct {
	*Volume
	block  int
	shards [][]byte // nil, if it was not read
	gone   set.Set  // shards that cannot be read
}

// ReadStripe reads the first bytes of a stripe, as many as are asked for. No drive is read more than once.
func (v *Volume) ReadStripe(block, size int) ([]byte, error) {
	s := stripe{Volume: v, block: block, shards: make([][]byte, v.params.Shards())}
	count := (size + record.ShardSize - 1) / record.ShardSize
	s.fetch(set.First(count))
	if s.gone != 0 {
		if err := s.repair(); err != nil {
			return nil, err
		}
	}
	return slices.Concat(s.shards[:count]...)[:size:size], nil
}

// fetch reads shards, but for those that were read.
func (s *stripe) fetch(shards set.Set) {
	for i := range (shards &^ s.gone).Members() {
		if s.shards[i] != nil {
			continue
		}
		r, err := s.Read(i, s.block)
		if x, ok := r.(record.Shard); ok && err == nil {
			s.shards[i] = x.Bytes[:]
		} else {
			s.gone = s.gone.With(i)
		}
	}
}

// repair works out the data that cannot be read.
func (s *stripe) repair() error {
	for {
		gone := s.gone
		g, err := s.plans.Reading(s.params, gone)
		if err != nil {
			return err
		}
		s.fetch(program.Loads(g))
		if s.gone != gone {
			continue // another plan is due, without those that turned out to be gone
		}
		return s.fill(g)
	}
}

// fill runs a program, and lays what it puts out beside what was read.
func (s *stripe) fill(g api.Program) error {
	out, err := program.Run(g, s.shards)
	for _, o := range out {
		s.shards[o.Shard] = o.Bytes
	}
	return err
}
