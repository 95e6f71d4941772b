package obj

import (
	"math"

	"turnout/api"
)

// What each object consists of: its parts in the order of their types, which count from 1 on.

func node(x *api.Node) part {
	return record(
		whole(&x.ID), whole(&x.Size),
		whole(&x.LenOff), whole(&x.LenWidth), whole(&x.LenUnit),
		whole(&x.SelOff), whole(&x.SelWidth),
		whole(&x.Other), list(&x.Arms, api.MaxArms, arm))
}

func arm(x *api.Arm) part {
	return record(number(&x.Value, math.MaxUint32), whole(&x.Next))
}

func field(x *api.Field) part {
	return record(whole(&x.ID), octet(&x.Base), whole(&x.Node), whole(&x.Off), whole(&x.Width))
}

func table(x *api.Table) part {
	return record(whole(&x.ID), octet(&x.Kind), list(&x.Keys, api.MaxKeys, whole), whole(&x.Cap), whole(&x.Miss))
}

func entry(x *api.Entry) part {
	return record(
		whole(&x.Table), text(&x.Key, api.MaxKey), text(&x.Other, api.MaxKey), whole(&x.Len), whole(&x.Prio),
		whole(&x.Block), list(&x.Args, api.MaxArgs, long),
		signed(&x.Idle), signed(&x.Hard), long(&x.Cookie), truth(&x.Tell))
}

func block(x *api.Block) part {
	return record(whole(&x.ID), list(&x.Code, api.MaxCode, instr))
}

func instr(x *api.Instr) part {
	return record(
		octet(&x.Op), whole(&x.To),
		octet(&x.A.Kind), long(&x.A.N),
		octet(&x.B.Kind), long(&x.B.N),
		whole(&x.N))
}

func group(x *api.Group) part {
	return record(whole(&x.ID), octet(&x.Kind), whole(&x.Field), list(&x.Buckets, api.MaxBuckets, bucket))
}

func bucket(x *api.Bucket) part {
	return record(long(&x.Weight), whole(&x.Block))
}

func meter(x *api.Meter) part {
	return record(whole(&x.ID), signed(&x.Rate), signed(&x.Burst))
}

func regs(x *api.Regs) part {
	return record(whole(&x.ID), whole(&x.Size))
}

// The numbers of each type.

func whole(x *int) part    { return number(x, api.MaxInt) }
func signed(x *int64) part { return number(x, math.MaxInt64) }
func octet(x *uint8) part  { return number(x, math.MaxUint8) }
func long(x *uint64) part  { return number(x, math.MaxUint64) }
