// Package stripes: objects on drives, with parities, and programs that repair them: see DOC.md.
package stripes

import (
	"stripes/api"
	"stripes/archive"
	"stripes/code"
	"stripes/field"
	"stripes/linear"
	"stripes/plan"
	"stripes/program"
)

// Mul multiplies in the field (P3).
func Mul(a, b byte) byte { return field.Mul(a, b) }

// Inv is the number by which one is multiplied to make 1 (P3).
func Inv(a byte) byte { return field.Inv(a) }

// Rank tells how many rows of a matrix are independent (P4).
func Rank(rows [][]byte) int { return linear.Rank(rows) }

// Matrix has a row for each shard (P5).
func Matrix(p api.Params) ([][]byte, error) { return code.Matrix(p) }

// Encode makes all shards of data shards (P6).
func Encode(p api.Params, data [][]byte) ([][]byte, error) { return code.Encode(p, data) }

// Decodable tells whether shards that are lost can be repaired (P7).
func Decodable(p api.Params, lost uint64) bool { return code.Decodable(p, lost) }

// Compile makes a program that repairs lost shards (P9).
func Compile(p api.Params, lost uint64) (api.Program, error) { return plan.Compile(p, lost) }

// Check tells whether a program is one (P8).
func Check(g api.Program, shards int) error { return program.Check(g, shards) }

// Run runs a program over shards (P8).
func Run(g api.Program, shards [][]byte) ([]api.Output, error) { return program.Run(g, shards) }

// Pack writes a program (P10).
func Pack(g api.Program) ([]byte, error) { return program.Pack(g) }

// Unpack reads one (P10).
func Unpack(b []byte) (api.Program, error) { return program.Unpack(b) }

// Archive has objects on drives.
type Archive struct{ kept *archive.Archive }

// Open opens an archive (P11).
func Open(a *api.Array, p api.Params, o api.Options) (*Archive, error) {
	kept, err := archive.Open(a, p, o)
	if err != nil {
		return nil, err
	}
	return &Archive{kept: kept}, nil
}

// Put adds an object (P12).
func (a *Archive) Put(name string, data []byte) error { return a.kept.Put(name, data) }

// Get tells an object (P13).
func (a *Archive) Get(name string) ([]byte, error) { return a.kept.Get(name) }

// Delete removes an object (P12).
func (a *Archive) Delete(name string) error { return a.kept.Delete(name) }

// List tells all objects (P13).
func (a *Archive) List() ([]api.Entry, error) { return a.kept.List() }

// Scrub looks at all blocks, and writes bad ones anew (P17).
func (a *Archive) Scrub() error { return a.kept.Scrub() }

// Replace fills a drive that was replaced (P17).
func (a *Archive) Replace(drive int) error { return a.kept.Replace(drive) }
