// Package faces holds the layers' faces against the chapters: a call or a field that is missing, or of another type, does not compile here.
package faces

import (
	"testing"

	"fanlight/api"
	"fanlight/desk"
	"fanlight/diff"
	"fanlight/disk"
	"fanlight/dom"
	"fanlight/eval"
	"fanlight/expr"
	"fanlight/float"
	"fanlight/hydrate"
	"fanlight/journal"
	"fanlight/lis"
	"fanlight/model"
	"fanlight/outbox"
	"fanlight/pack"
	"fanlight/queue"
	"fanlight/reduce"
	"fanlight/script"
	"fanlight/seal"
	"fanlight/session"
	"fanlight/snap"
	"fanlight/store"
	"fanlight/tree"
	"fanlight/value"
	"fanlight/view"
	"fanlight/wal"
)

func TestFacesOfNumbersAndOctets(t *testing.T) {
	var _ func(uint64) uint64 = float.Canon
	var _ func(uint64) int = float.Class
	var _ func(uint64) uint64 = float.Order
	var _ func(uint64, uint64) uint64 = float.Add
	var _ func(uint64, uint64) uint64 = float.Sub
	var _ func(uint64, uint64) uint64 = float.Mul
	var _ func(uint64, uint64) uint64 = float.Div
	var _ func(uint64) uint64 = float.Floor
	var _ func(int) (uint64, api.Errno) = float.Of
	var _ func(uint64) (int, api.Errno) = float.Int

	var _ func(api.Value) api.Errno = value.Check
	var _ func(api.Value, api.Value) bool = value.Same
	var _ func(api.Value, api.Value) (int, api.Errno) = value.Compare
	var _ func(api.Value) (int, int, api.Errno) = value.Size
	var _ func(api.Value, []api.Step) (api.Value, api.Errno) = value.Get
	var _ func(api.Value, []api.Step, api.Value) (api.Value, api.Errno) = value.Set

	var _ func(api.Value) ([]byte, api.Errno) = pack.Encode
	var _ func([]byte) (api.Value, api.Errno) = pack.Decode
	var _ func([]byte) (api.Value, int, api.Errno) = pack.Take

	_ = seal.Frame{Kind: int(0), Data: []byte(nil)}
	var _ func([]byte) uint32 = seal.Sum
	var _ func(seal.Frame) ([]byte, api.Errno) = seal.Put
	var _ func([]byte) (seal.Frame, int, api.Errno) = seal.Get
	var _ func([]byte) ([]seal.Frame, int) = seal.Scan
}

func TestFacesOfTheDisk(t *testing.T) {
	_ = disk.State{Sectors: [][]byte(nil), Cache: []api.Write(nil)}
	var _ func(int) (disk.State, api.Errno) = disk.New
	var _ func(disk.State) api.Errno = disk.Check
	var _ func(disk.State, api.Write) (disk.State, api.Errno) = disk.Do
	var _ func(disk.State, []api.Write) (disk.State, int, api.Errno) = disk.Run
	var _ func(disk.State, int, int) ([]byte, api.Errno) = disk.Read
	var _ func(disk.State, []int) (disk.State, api.Errno) = disk.Crash
	var _ func([]byte) []byte = disk.Padded

	_ = wal.Record{Seq: int(0), Data: []byte(nil)}
	_ = wal.Log{Segs: [][]byte(nil), Next: int(0)}
	var _ func(wal.Log) api.Errno = wal.Check
	var _ func(wal.Log, []byte) (wal.Log, int, api.Errno) = wal.Append
	var _ func(wal.Log) ([]wal.Record, api.Errno) = wal.Records
	var _ func([]byte, int) ([]wal.Record, int) = wal.Scan
	var _ func([][]byte, int) (wal.Log, api.Errno) = wal.Recover
	var _ func(wal.Log, int) (wal.Log, api.Errno) = wal.Drop

	_ = snap.Snap{Epoch: int(0), Seq: int(0), Data: []byte(nil)}
	var _ func(snap.Snap) api.Errno = snap.Check
	var _ func(snap.Snap) ([]byte, api.Errno) = snap.Encode
	var _ func([]byte) (snap.Snap, api.Errno) = snap.Decode
	var _ func([]byte, []byte) (snap.Snap, int, api.Errno) = snap.Newest

	_ = outbox.Box{Last: int(0), Items: []api.Item(nil)}
	var _ func() outbox.Box = outbox.New
	var _ func(outbox.Box) api.Errno = outbox.Check
	var _ func(outbox.Box, int, []api.Effect) (outbox.Box, api.Errno) = outbox.Add
	var _ func(outbox.Box, int) (outbox.Box, bool, api.Errno) = outbox.Ack
	var _ func(outbox.Box, int) ([]api.Item, api.Errno) = outbox.Next
	var _ func(outbox.Box) ([]byte, api.Errno) = outbox.Encode
	var _ func([]byte) (outbox.Box, api.Errno) = outbox.Decode
}

func TestFacesOfTheDisplay(t *testing.T) {
	var _ func(api.Tree) api.Errno = tree.Check
	var _ func(api.Tree, api.Tree) bool = tree.Same
	var _ func(api.Tree) (int, int, api.Errno) = tree.Size
	var _ func(api.Tree) (string, api.Errno) = tree.Print
	var _ func(api.Tree) (string, api.Errno) = tree.Texts

	_ = dom.Node{ID: int(0), Parent: int(0), Tag: string(""), Key: string(""), Text: string(""), Attrs: []api.Attr(nil), Kids: []int(nil)}
	_ = dom.State{Nodes: []dom.Node(nil), Root: int(0), Next: int(0)}
	_ = dom.Patch{What: int(0), ID: int(0), Parent: int(0), At: int(0), Tag: string(""), Key: string(""), Text: string(""), Name: string(""), Value: string("")}
	var _ func() dom.State = dom.New
	var _ func(dom.State) api.Errno = dom.Check
	var _ func(dom.State, dom.Patch) (dom.State, api.Errno) = dom.Apply
	var _ func(dom.State, []dom.Patch) (dom.State, int, api.Errno) = dom.Run
	var _ func(dom.State) (api.Tree, api.Errno) = dom.Tree
	var _ func(api.Tree) (dom.State, api.Errno) = dom.Build

	var _ func([]int) ([]int, api.Errno) = lis.Longest
	var _ func([]int) (int, api.Errno) = lis.Length
	var _ func([]int) ([]int, api.Errno) = lis.Moves

	var _ func(dom.State, api.Tree) ([]dom.Patch, api.Errno) = diff.Diff
	var _ func(dom.Node, api.Tree) bool = diff.Fits
	var _ func(dom.State, api.Tree) (dom.State, api.Errno) = diff.Turn

	var _ func(dom.State, api.Tree) ([]dom.Patch, api.Errno) = hydrate.Patches
	var _ func(dom.State, api.Tree) (dom.State, api.Errno) = hydrate.Hydrate
	var _ func(dom.State) ([]int, api.Errno) = hydrate.Loose
	var _ func(dom.State, api.Tree) ([]int, api.Errno) = hydrate.Kept
}

func TestFacesOfPrograms(t *testing.T) {
	_ = expr.Expr{Op: int(0), Bits: uint64(0), Text: string(""), Args: []expr.Expr(nil)}
	var _ func(expr.Expr) api.Errno = expr.Check
	var _ func(expr.Expr, expr.Expr) bool = expr.Same
	var _ func(expr.Expr) (int, int, api.Errno) = expr.Size
	var _ func(expr.Expr) ([]byte, api.Errno) = expr.Encode
	var _ func([]byte) (expr.Expr, api.Errno) = expr.Decode

	_ = eval.Scope{State: api.Value{}, Event: api.Value{}, Item: api.Value{}}
	var _ func(expr.Expr, eval.Scope, int) (api.Value, int, api.Errno) = eval.Eval
	var _ func(api.Value) (bool, api.Errno) = eval.True

	_ = reduce.Set{Key: string(""), Expr: expr.Expr{}}
	_ = reduce.Emit{When: expr.Expr{}, Name: string(""), Arg: expr.Expr{}}
	_ = reduce.Handler{On: string(""), Sets: []reduce.Set(nil), Emits: []reduce.Emit(nil)}
	_ = reduce.Program{Init: api.Value{}, Handlers: []reduce.Handler(nil)}
	var _ func(reduce.Program) api.Errno = reduce.Check
	var _ func(reduce.Program, api.Value, api.Event) (api.Value, []api.Effect, api.Errno) = reduce.Step
	var _ func(reduce.Program, []api.Event) (api.Value, []api.Effect, int, api.Errno) = reduce.Fold

	_ = view.Attr{Name: string(""), Expr: expr.Expr{}}
	_ = view.Template{What: int(0), Tag: string(""), Key: expr.Expr{}, Expr: expr.Expr{}, Attrs: []view.Attr(nil), Kids: []view.Template(nil)}
	var _ func(view.Template) api.Errno = view.Check
	var _ func(view.Template, api.Value, int) (api.Tree, api.Errno) = view.Render
	var _ func(api.Value) (string, api.Errno) = view.Word

	_ = queue.Queue{Limit: int(0), Last: int(0), Events: []api.Event(nil)}
	var _ func(int) (queue.Queue, api.Errno) = queue.New
	var _ func(queue.Queue) api.Errno = queue.Check
	var _ func(queue.Queue, api.Event) (queue.Queue, int, api.Errno) = queue.Push
	var _ func(queue.Queue, int) (queue.Queue, []api.Event, int, api.Errno) = queue.Take
	var _ func(queue.Queue) (bool, api.Errno) = queue.Full

	_ = model.State{Program: reduce.Program{}, Template: view.Template{}, Value: api.Value{}, Queue: queue.Queue{}, Box: outbox.Box{}, Shown: api.Tree{}}
	var _ func(reduce.Program, view.Template, int) (model.State, api.Errno) = model.New
	var _ func(model.State) api.Errno = model.Check
	var _ func(model.State, api.Event) (model.State, int, api.Errno) = model.Submit
	var _ func(model.State, int) (model.State, []int, api.Errno) = model.Work
	var _ func(model.State) (model.State, api.Errno) = model.Render
	var _ func(model.State, int) (model.State, bool, api.Errno) = model.Ack
	var _ func(model.State, int) ([]api.Item, api.Errno) = model.Deliver

	_ = journal.Entry{What: int(0), ID: int(0), Event: api.Event{}}
	var _ func(journal.Entry) api.Errno = journal.Check
	var _ func(journal.Entry) ([]byte, api.Errno) = journal.Encode
	var _ func([]byte) (journal.Entry, api.Errno) = journal.Decode
	var _ func(model.State, []journal.Entry) (model.State, int, api.Errno) = journal.Play
	var _ func(model.State) ([]byte, api.Errno) = journal.Freeze
	var _ func(reduce.Program, view.Template, int, []byte) (model.State, api.Errno) = journal.Thaw
}

func TestFacesOfTheRuntime(t *testing.T) {
	_ = store.State{Disk: disk.State{}, Snap: snap.Snap{}, Log: wal.Log{}, First: int(0), Synced: int(0)}
	var _ func(int, []byte) (store.State, api.Errno) = store.Format
	var _ func(store.State) api.Errno = store.Check
	var _ func(store.State, []byte) (store.State, []api.Write, int, api.Errno) = store.Append
	var _ func(store.State) (store.State, []api.Write, api.Errno) = store.Sync
	var _ func(store.State, []byte) (store.State, []api.Write, api.Errno) = store.Snapshot
	var _ func(disk.State) (store.State, []api.Write, api.Errno) = store.Mount
	var _ func(store.State) ([]wal.Record, api.Errno) = store.Since

	_ = session.Act{Paint: bool(false), Write: api.Write{}, Patch: dom.Patch{}}
	_ = session.State{Model: model.State{}, Store: store.State{}, Display: dom.State{}}
	var _ func(reduce.Program, view.Template, int, int) (session.State, api.Errno) = session.Start
	var _ func(reduce.Program, view.Template, int, disk.State, dom.State) (session.State, []session.Act, api.Errno) = session.Recover
	var _ func(session.State) api.Errno = session.Check
	var _ func(session.State, api.Event) (session.State, int, []session.Act, api.Errno) = session.Submit
	var _ func(session.State, int) (session.State, []int, api.Errno) = session.Work
	var _ func(session.State) (session.State, []session.Act, api.Errno) = session.Sync
	var _ func(session.State) (session.State, []session.Act, api.Errno) = session.Render
	var _ func(session.State) (session.State, []session.Act, api.Errno) = session.Snapshot
	var _ func(session.State, int) (session.State, []api.Item, []session.Act, api.Errno) = session.Deliver
	var _ func(session.State, int) (session.State, bool, []session.Act, api.Errno) = session.Ack

	_ = script.Config{Program: reduce.Program{}, Template: view.Template{}, Limit: int(0), Segs: int(0)}
	_ = script.Event{Kind: int(0), N: int(0), Cut: int(0), Event: api.Event{}, Keep: []int(nil)}
	_ = script.Outcome{Told: bool(false), Err: api.OK, N: int(0), Codes: []int(nil), Items: []api.Item(nil)}
	_ = script.Report{Outcomes: []script.Outcome(nil), Values: []api.Value(nil), Shown: api.Tree{}, Waiting: int(0), Synced: int(0), Epoch: int(0)}
	var _ func() (reduce.Program, view.Template) = script.Demo
	var _ func(script.Config) api.Errno = script.Check
	var _ func(script.Config, []script.Event) (script.Report, api.Errno) = script.Run

	var _ func() *desk.Desk = desk.New
	var _ func(*desk.Desk, string) (string, api.Errno) = (*desk.Desk).Do
	var _ func(*desk.Desk) int = (*desk.Desk).Len
	var _ func(string) (string, api.Errno) = desk.Session
	var _ func(string) []string = desk.Split
}
