package fresh

import (
	"reflect"
	"testing"

	"stencil/api"
)

func TestValue(t *testing.T) {
	one := api.Value{Kind: api.KInt, Int: 1}
	made := func() api.Value {
		return api.Value{Kind: api.KList, List: []api.Value{
			one,
			{Kind: api.KRec, Names: []string{"a", "b"}, List: []api.Value{{Kind: api.KStr, Str: "s"}, {Kind: api.KList, List: []api.Value{one}}}},
			{Kind: api.KBool, Bool: true}, {Kind: api.KList}, {Kind: 9, Bool: true, Int: 1, Str: "\xff", Names: []string{"a"}, List: []api.Value{{}}},
		}}
	}
	v := made()
	got := Value(v)
	if !reflect.DeepEqual(got, made()) || !reflect.DeepEqual(v, made()) {
		t.Fatalf("%v", got)
	}
	got.List[0].Int = 2
	got.List[1].Names[0] = "c"
	got.List[1].List[1].List[0] = api.Value{}
	got.List[4].List[0].Kind = 3
	got.List[4].Names[0] = "c"
	if !reflect.DeepEqual(v, made()) {
		t.Error("the copy shares memory")
	}
	// One part twice is two parts of the copy.
	part := []api.Value{one}
	twice := Value(api.Value{Kind: api.KList, List: []api.Value{{Kind: api.KList, List: part}, {Kind: api.KList, List: part}}})
	twice.List[0].List[0].Int = 5
	if twice.List[1].List[0].Int != 1 || part[0].Int != 1 {
		t.Error("two lists of the copy share memory")
	}
}
