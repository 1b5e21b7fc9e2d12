// Package code tells how the shards of a stripe are made of its data.
package code

import (
	"stripes/api"
	"stripes/field"
	"stripes/linear"
)

// Right tells whether there are stripes of so many shards.
func Right(p api.Params) bool {
	// Each number is held to its bounds first, so that the sum cannot wrap round and nothing is divided by 0.
	return p.Data >= 1 && p.Data <= api.MaxData &&
		p.Local >= 1 && p.Local <= api.MaxLocal &&
		p.Global >= 0 && p.Global <= api.MaxGlobal &&
		p.Data%p.Local == 0 && p.Shards() <= api.MaxShards
}

// Matrix tells for each shard by which numbers the data are multiplied.
func Matrix(p api.Params) ([][]byte, error) {
	if !Right(p) {
		return nil, api.ErrParams
	}
	rows := make([][]byte, 0, p.Shards())
	for i := range p.Data {
		rows = append(rows, dataRow(p, i))
	}
	for g := range p.Local {
		rows = append(rows, localRow(p, g))
	}
	for i := range p.Global {
		rows = append(rows, globalRow(p, i))
	}
	return rows, nil
}

// dataRow is the row of data shard i.
func dataRow(p api.Params, i int) []byte {
	row := make([]byte, p.Data)
	row[i] = 1
	return row
}

// localRow is the row of the local parity of group g.
func localRow(p api.Params, g int) []byte {
	row := make([]byte, p.Data)
	size := p.Data / p.Local
	for j := g * size; j < (g+1)*size; j++ {
		row[j] = 1
	}
	return row
}

// globalRow is the row of global parity i.
func globalRow(p api.Params, i int) []byte {
	row := make([]byte, p.Data)
	for j := range row {
		row[j] = field.Inv(byte((p.Data + i) ^ j))
	}
	return row
}

// Encode makes all shards of a stripe.
func Encode(p api.Params, data [][]byte) ([][]byte, error) {
	rows, err := Matrix(p)
	if err != nil {
		return nil, err
	}
	if len(data) != p.Data || !even(data) {
		return nil, api.ErrShards
	}
	shards := make([][]byte, len(rows))
	for i, row := range rows {
		shards[i] = combine(row, data)
	}
	return shards, nil
}

// even tells whether shards have all one length that is allowed.
func even(shards [][]byte) bool {
	for _, s := range shards {
		if len(s) != len(shards[0]) || len(s) > api.MaxLength {
			return false
		}
	}
	return true
}

// combine adds up shards of one length, each times its number of the row.
// What it makes is not nil even of shards of no bytes, for a shard that is nil is a lost one.
func combine(row []byte, shards [][]byte) []byte {
	sum := make([]byte, len(shards[0]))
	for j, c := range row {
		field.AddTimes(sum, shards[j], c)
	}
	return sum
}

// Decodable tells whether the shards that are not lost tell all the data.
func Decodable(p api.Params, lost uint64) bool {
	rows, err := Matrix(p)
	return err == nil && linear.Rank(kept(rows, lost)) == p.Data
}

// kept has the rows of the shards that are not lost.
func kept(rows [][]byte, lost uint64) [][]byte {
	var l [][]byte
	for i, row := range rows {
		if lost>>i&1 == 0 {
			l = append(l, row)
		}
	}
	return l
}
