package policy

import (
	"reflect"
	"testing"
)

// The text says all that the tree does, but for places.
func TestTextOfATreeIsReadAsThatTree(t *testing.T) {
	for _, stmts := range []string{
		"",
		"put r;put s tail;evict r;cool s;",
		"shift r s;shift s r tail;",
		"drop;bump;inc v;dec v;",
		"if full r{drop;}if empty r{}else{}if warm s{}else{bump;}",
		"if not not not v<007{repeat 05 while not not len r<freq{inc v;}}else{drop;}",
	} {
		tree := readBlock(t, stmts)
		p := &Policy{Rules: []Rule{{Event: Name{Text: Miss}, Block: tree}}}
		text := p.Text()
		block := text[len("on miss {") : len(text)-len("}\n")]
		if again := readBlock(t, block); !reflect.DeepEqual(bare(again), bare(tree)) {
			t.Errorf("%q is written as %q, and read as %+v", stmts, block, again)
		}
	}
}
