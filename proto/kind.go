package proto

import "turnout/api"

// The types of the attributes.
const (
	typeID uint8 = iota + 1
	typeIndex
	typeCode
	typePort
	typeTag
	typeN
	typeM
	typeData
	typeWords
	typeNode
	typeField
	typeTable
	typeEntry
	typeBlock
	typeGroup
	typeMeter
	typeRegs
)

// kinds tells of each kind which attributes it has: the bits of their types.
var kinds = [...]uint32{
	api.Hello:       0,
	api.HelloTell:   1 << typeN,
	api.Echo:        1 << typeData,
	api.EchoTell:    1 << typeData,
	api.Begin:       0,
	api.Done:        1<<typeIndex | 1<<typeN,
	api.Commit:      0,
	api.Abort:       0,
	api.Failed:      1<<typeIndex | 1<<typeCode,
	api.Error:       1 << typeCode,
	api.NodePut:     1 << typeNode,
	api.NodeDel:     1 << typeID,
	api.FieldPut:    1 << typeField,
	api.FieldDel:    1 << typeID,
	api.TablePut:    1 << typeTable,
	api.TableDel:    1 << typeID,
	api.EntryPut:    1 << typeEntry,
	api.EntryDel:    1 << typeEntry,
	api.BlockPut:    1 << typeBlock,
	api.BlockDel:    1 << typeID,
	api.GroupPut:    1 << typeGroup,
	api.GroupDel:    1 << typeID,
	api.MeterPut:    1 << typeMeter,
	api.MeterDel:    1 << typeID,
	api.RegsPut:     1 << typeRegs,
	api.RegsDel:     1 << typeID,
	api.CounterPut:  1 << typeID,
	api.CounterDel:  1 << typeID,
	api.CounterGet:  1 << typeID,
	api.CounterTell: 1<<typeID | 1<<typeN | 1<<typeM,
	api.RegsGet:     1<<typeID | 1<<typeIndex | 1<<typeN,
	api.RegsTell:    1<<typeID | 1<<typeIndex | 1<<typeWords,
	api.RegsSet:     1<<typeID | 1<<typeIndex | 1<<typeWords,
	api.MeterGet:    1 << typeID,
	api.MeterTell:   1<<typeID | 1<<typeN,
	api.DropsGet:    0,
	api.DropsTell:   1 << typeWords,
	api.PortGet:     1 << typePort,
	api.PortTell:    1<<typePort | 1<<typeIndex | 1<<typeN,
	api.PacketOut:   1<<typePort | 1<<typeData,
	api.PacketIn:    1<<typePort | 1<<typeTag | 1<<typeData,
	api.Expired:     1<<typeEntry | 1<<typeTag,
	api.BoundGet:    0,
	api.BoundTell:   1 << typeN,
	api.TableGet:    1 << typeID,
	api.TableTell:   1<<typeID | 1<<typeN,
}

// has tells whether kind has the attribute of type t.
func has(kind, t uint8) bool {
	return int(kind) < len(kinds) && kinds[kind]>>t&1 == 1
}
