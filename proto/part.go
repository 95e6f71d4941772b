package proto

import (
	"math"

	"turnout/api"
	"turnout/obj"
	"turnout/tlv"
)

const (
	octet = 8       // bits of a byte
	xid   = 4       // bytes of a message's number
	head  = 1 + xid // bytes ahead of the attributes: the kind, and the number
)

// put returns the encoding of the part of m whose attribute is of type t: empty, if it is 0 or empty.
func put(m api.Msg, t uint8) (string, api.Errno) {
	switch t {
	case typeID:
		return putInt(m.ID)
	case typeIndex:
		return putInt(m.Index)
	case typeCode:
		return putInt(m.Code)
	case typePort:
		return putInt(m.Port)
	case typeTag:
		return putInt(m.Tag)
	case typeN:
		return tlv.Num(m.N), api.OK
	case typeM:
		return tlv.Num(m.M), api.OK
	case typeData:
		return m.Data, api.OK
	case typeWords:
		return putWords(m.Words)
	case typeNode:
		return obj.PutNode(m.Node)
	case typeField:
		return obj.PutField(m.Field)
	case typeTable:
		return obj.PutTable(m.Table)
	case typeEntry:
		return obj.PutEntry(m.Entry)
	case typeBlock:
		return obj.PutBlock(m.Block)
	case typeGroup:
		return obj.PutGroup(m.Group)
	case typeMeter:
		return obj.PutMeter(m.Meter)
	case typeRegs:
		return obj.PutRegs(m.Regs)
	}
	return "", api.OK
}

// get makes the part of m whose attribute is of type t what value is the encoding of.
func get(m *api.Msg, t uint8, value string) (e api.Errno) {
	switch t {
	case typeID:
		m.ID, e = getInt(value)
	case typeIndex:
		m.Index, e = getInt(value)
	case typeCode:
		m.Code, e = getInt(value)
	case typePort:
		m.Port, e = getInt(value)
	case typeTag:
		m.Tag, e = getInt(value)
	case typeN:
		m.N, e = getLong(value)
	case typeM:
		m.M, e = getLong(value)
	case typeData:
		m.Data = value
	case typeWords:
		m.Words, e = getWords(value)
	case typeNode:
		m.Node, e = obj.Node(value)
	case typeField:
		m.Field, e = obj.Field(value)
	case typeTable:
		m.Table, e = obj.Table(value)
	case typeEntry:
		m.Entry, e = obj.Entry(value)
	case typeBlock:
		m.Block, e = obj.Block(value)
	case typeGroup:
		m.Group, e = obj.Group(value)
	case typeMeter:
		m.Meter, e = obj.Meter(value)
	case typeRegs:
		m.Regs, e = obj.Regs(value)
	}
	return e
}

// putHead returns the kind of m and its number as bytes.
func putHead(m api.Msg) string {
	b := []byte{m.Kind}
	for i := range xid {
		b = append(b, byte(m.Xid>>(octet*(xid-1-i))))
	}
	return string(b)
}

// getHead returns the message that has the kind and the number whose bytes s are, and nothing else.
func getHead(s string) api.Msg {
	m := api.Msg{Kind: s[0]}
	for i := range xid {
		m.Xid = m.Xid<<octet | uint32(s[1+i])
	}
	return m
}

func putInt(n int) (string, api.Errno) {
	if n < 0 || n > api.MaxInt {
		return "", api.ErrForm
	}
	return tlv.Num(uint64(n)), api.OK
}

func getInt(s string) (int, api.Errno) {
	n, e := tlv.ReadNum(s, api.MaxInt)
	return int(n), e
}

func getLong(s string) (uint64, api.Errno) { return tlv.ReadNum(s, math.MaxUint64) }

func putWords(words []uint64) (string, api.Errno) {
	if len(words) > api.MaxWords {
		return "", api.ErrForm
	}
	var items []string
	for _, n := range words {
		items = append(items, tlv.Num(n))
	}
	return tlv.List(items)
}

func getWords(s string) ([]uint64, api.Errno) {
	items, e := tlv.ReadList(s, api.MaxWords)
	if e != api.OK {
		return nil, e
	}
	words := make([]uint64, len(items))
	for i, item := range items {
		if words[i], e = getLong(item); e != api.OK {
			return nil, e
		}
	}
	return words, api.OK
}
