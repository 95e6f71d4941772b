/- OMsg OSameH -/
import Derived.Test.YtoopdhgmdjienaaGreatDoorPkW05
import Derived.Test.YtoopdhgmdjienaaGreatDoorPkW04
import Derived.WalkKit
import Derived.Lib.Hide
import Derived.Deep.DeepCutAuto
import Derived.WalkLawsBesides
import Derived.WalkSpells
import Derived.BigQuiet
import Derived.BigRegion
import Derived.Deep.RegionHeld3
import Derived.Test.YtoopdhgmdjienaaGreatDoorPkW01
namespace Go.Proofs.YtoopdhgmdjienaaGreatDoor
set_option linter.unusedVariables false
open Go.ChangeShapes Go.WideShapes Go.ChangeAt Go.RowKit Go.Joins
open Go.ChangeMaps (open_string shut_string)
structure RowN where
 A : Option Addr
 n : Nat
 cap : Nat
 l : List (List Value)
structure RowN.Ok (w : World) (size : Nat) (q : List Value → Prop) (x : RowN) : Prop where
 len : x.l.length = x.n
 le : x.n ≤ x.cap
 max : x.cap ≤ maxLen
 at_ : RowAt w x.A size x.l
 elt : ∀ y ∈ x.l, q y
def isArm (y : List Value) : Prop := ∃ v0 v1 : Int, y = [.int .u32 v0, .int .i64 v1] ∧ (Lit.int .u32 v0).wf = true ∧ (Lit.int .i64 v1).wf = true
theorem isArm_of {w : World} {y : List Value} (h : Sh.ok w (.tup [.int .u32, .int .i64]) y) : isArm y := by
 unfold Sh.ok at h
 obtain ⟨v0, r, rfl, w0, g1⟩ := oks_int h
 obtain ⟨v1, r, rfl, w1, g2⟩ := oks_int g1
 obtain rfl := oks_nil g2
 exact ⟨v0, v1, rfl, w0, w1⟩
def isKey (y : List Value) : Prop := ∃ v0 : Int, y = [.int .i64 v0] ∧ (Lit.int .i64 v0).wf = true
theorem isKey_of {w : World} {y : List Value} (h : Sh.ok w (.int .i64) y) : isKey y := by
 unfold Sh.ok at h
 obtain ⟨v0, rfl, w0⟩ := h
 exact ⟨v0, rfl, w0⟩
def isArg (y : List Value) : Prop := ∃ v0 : Int, y = [.int .u64 v0] ∧ (Lit.int .u64 v0).wf = true
theorem isArg_of {w : World} {y : List Value} (h : Sh.ok w (.int .u64) y) : isArg y := by
 unfold Sh.ok at h
 obtain ⟨v0, rfl, w0⟩ := h
 exact ⟨v0, rfl, w0⟩
def isInstr (y : List Value) : Prop := ∃ v0 v1 v2 v3 v4 v5 v6 : Int, y = [.int .u8 v0, .int .i64 v1, .int .u8 v2, .int .u64 v3, .int .u8 v4, .int .u64 v5, .int .i64 v6] ∧ (Lit.int .u8 v0).wf = true ∧ (Lit.int .i64 v1).wf = true ∧ (Lit.int .u8 v2).wf = true ∧ (Lit.int .u64 v3).wf = true ∧ (Lit.int .u8 v4).wf = true ∧ (Lit.int .u64 v5).wf = true ∧ (Lit.int .i64 v6).wf = true
theorem isInstr_of {w : World} {y : List Value} (h : Sh.ok w (.tup [.int .u8, .int .i64, .tup [.int .u8, .int .u64], .tup [.int .u8, .int .u64], .int .i64]) y) : isInstr y := by
 unfold Sh.ok at h
 obtain ⟨v0, r, rfl, w0, g4⟩ := oks_int h
 obtain ⟨v1, r, rfl, w1, g5⟩ := oks_int g4
 obtain ⟨a, r, rfl, k6, g6⟩ := oks_rec g5
 obtain ⟨v2, r2, rfl, w2, k7⟩ := oks_int k6
 obtain ⟨v3, r2, rfl, w3, k8⟩ := oks_int k7
 obtain rfl := oks_nil k8
 obtain ⟨a, r, rfl, k10, g10⟩ := oks_rec g6
 obtain ⟨v4, r2, rfl, w4, k11⟩ := oks_int k10
 obtain ⟨v5, r2, rfl, w5, k12⟩ := oks_int k11
 obtain rfl := oks_nil k12
 obtain ⟨v6, r, rfl, w6, g14⟩ := oks_int g10
 obtain rfl := oks_nil g14
 exact ⟨v0, v1, v2, v3, v4, v5, v6, rfl, w0, w1, w2, w3, w4, w5, w6⟩
def isBucket (y : List Value) : Prop := ∃ v0 v1 : Int, y = [.int .u64 v0, .int .i64 v1] ∧ (Lit.int .u64 v0).wf = true ∧ (Lit.int .i64 v1).wf = true
theorem isBucket_of {w : World} {y : List Value} (h : Sh.ok w (.tup [.int .u64, .int .i64]) y) : isBucket y := by
 unfold Sh.ok at h
 obtain ⟨v0, r, rfl, w0, g16⟩ := oks_int h
 obtain ⟨v1, r, rfl, w1, g17⟩ := oks_int g16
 obtain rfl := oks_nil g17
 exact ⟨v0, v1, rfl, w0, w1⟩
structure NodeN where
 f0 : Int
 f1 : Int
 f2 : Int
 f3 : Int
 f4 : Int
 f5 : Int
 f6 : Int
 f7 : RowN
 f8 : Int
def NodeN.cells (x : NodeN) : List Value := [.int .i64 x.f0, .int .i64 x.f1, .int .i64 x.f2, .int .i64 x.f3, .int .i64 x.f4, .int .i64 x.f5, .int .i64 x.f6, .slice x.f7.A x.f7.n x.f7.cap, .int .i64 x.f8]
structure NodeN.Ok (w : World) (x : NodeN) : Prop where
 o0 : (Lit.int .i64 x.f0).wf = true
 o1 : (Lit.int .i64 x.f1).wf = true
 o2 : (Lit.int .i64 x.f2).wf = true
 o3 : (Lit.int .i64 x.f3).wf = true
 o4 : (Lit.int .i64 x.f4).wf = true
 o5 : (Lit.int .i64 x.f5).wf = true
 o6 : (Lit.int .i64 x.f6).wf = true
 o7 : x.f7.Ok w 2 isArm
 o8 : (Lit.int .i64 x.f8).wf = true
def shNode : List Sh := [.int .i64, .int .i64, .int .i64, .int .i64, .int .i64, .int .i64, .int .i64, .row (.tup [.int .u32, .int .i64]), .int .i64]
theorem readNode {w : World} {cs : List Value} (h : Sh.oks w shNode cs) : ∃ x : NodeN, x.Ok w ∧ cs = x.cells := by
 unfold shNode at h
 obtain ⟨x0, r, rfl, w0, g19⟩ := oks_int h
 obtain ⟨x1, r, rfl, w1, g20⟩ := oks_int g19
 obtain ⟨x2, r, rfl, w2, g21⟩ := oks_int g20
 obtain ⟨x3, r, rfl, w3, g22⟩ := oks_int g21
 obtain ⟨x4, r, rfl, w4, g23⟩ := oks_int g22
 obtain ⟨x5, r, rfl, w5, g24⟩ := oks_int g23
 obtain ⟨x6, r, rfl, w6, g25⟩ := oks_int g24
 obtain ⟨A7, n7, c7, l7, r, rfl, p7, b7, m7, t7, e7, g26⟩ := oks_row g25
 obtain ⟨x8, r, rfl, w8, g27⟩ := oks_int g26
 obtain rfl := oks_nil g27
 exact ⟨⟨x0, x1, x2, x3, x4, x5, x6, ⟨A7, n7, c7, l7⟩, x8⟩, ⟨w0, w1, w2, w3, w4, w5, w6, ⟨p7, b7, m7, t7, fun y hy => isArm_of (e7 y hy)⟩, w8⟩, by simp [NodeN.cells]⟩
structure FieldN where
 f0 : Int
 f1 : Int
 f2 : Int
 f3 : Int
 f4 : Int
def FieldN.cells (x : FieldN) : List Value := [.int .i64 x.f0, .int .u8 x.f1, .int .i64 x.f2, .int .i64 x.f3, .int .i64 x.f4]
structure FieldN.Ok (w : World) (x : FieldN) : Prop where
 o0 : (Lit.int .i64 x.f0).wf = true
 o1 : (Lit.int .u8 x.f1).wf = true
 o2 : (Lit.int .i64 x.f2).wf = true
 o3 : (Lit.int .i64 x.f3).wf = true
 o4 : (Lit.int .i64 x.f4).wf = true
def shField : List Sh := [.int .i64, .int .u8, .int .i64, .int .i64, .int .i64]
theorem readField {w : World} {cs : List Value} (h : Sh.oks w shField cs) : ∃ x : FieldN, x.Ok w ∧ cs = x.cells := by
 unfold shField at h
 obtain ⟨x0, r, rfl, w0, g29⟩ := oks_int h
 obtain ⟨x1, r, rfl, w1, g30⟩ := oks_int g29
 obtain ⟨x2, r, rfl, w2, g31⟩ := oks_int g30
 obtain ⟨x3, r, rfl, w3, g32⟩ := oks_int g31
 obtain ⟨x4, r, rfl, w4, g33⟩ := oks_int g32
 obtain rfl := oks_nil g33
 exact ⟨⟨x0, x1, x2, x3, x4⟩, ⟨w0, w1, w2, w3, w4⟩, by simp [FieldN.cells]⟩
structure TableN where
 f0 : Int
 f1 : Int
 f2 : RowN
 f3 : Int
 f4 : Int
def TableN.cells (x : TableN) : List Value := [.int .i64 x.f0, .int .u8 x.f1, .slice x.f2.A x.f2.n x.f2.cap, .int .i64 x.f3, .int .i64 x.f4]
structure TableN.Ok (w : World) (x : TableN) : Prop where
 o0 : (Lit.int .i64 x.f0).wf = true
 o1 : (Lit.int .u8 x.f1).wf = true
 o2 : x.f2.Ok w 1 isKey
 o3 : (Lit.int .i64 x.f3).wf = true
 o4 : (Lit.int .i64 x.f4).wf = true
def shTable : List Sh := [.int .i64, .int .u8, .row (.int .i64), .int .i64, .int .i64]
theorem readTable {w : World} {cs : List Value} (h : Sh.oks w shTable cs) : ∃ x : TableN, x.Ok w ∧ cs = x.cells := by
 unfold shTable at h
 obtain ⟨x0, r, rfl, w0, g35⟩ := oks_int h
 obtain ⟨x1, r, rfl, w1, g36⟩ := oks_int g35
 obtain ⟨A2, n2, c2, l2, r, rfl, p2, b2, m2, t2, e2, g37⟩ := oks_row g36
 obtain ⟨x3, r, rfl, w3, g38⟩ := oks_int g37
 obtain ⟨x4, r, rfl, w4, g39⟩ := oks_int g38
 obtain rfl := oks_nil g39
 exact ⟨⟨x0, x1, ⟨A2, n2, c2, l2⟩, x3, x4⟩, ⟨w0, w1, ⟨p2, b2, m2, t2, fun y hy => isKey_of (e2 y hy)⟩, w3, w4⟩, by simp [TableN.cells]⟩
structure EntryN where
 f0 : Int
 f1 : ByteArray
 f2 : ByteArray
 f3 : Int
 f4 : Int
 f5 : Int
 f6 : RowN
 f7 : Int
 f8 : Int
 f9 : Int
 f10 : Bool
def EntryN.cells (x : EntryN) : List Value := [.int .i64 x.f0, .string x.f1, .string x.f2, .int .i64 x.f3, .int .i64 x.f4, .int .i64 x.f5, .slice x.f6.A x.f6.n x.f6.cap, .int .i64 x.f7, .int .i64 x.f8, .int .u64 x.f9, .bool x.f10]
structure EntryN.Ok (w : World) (x : EntryN) : Prop where
 o0 : (Lit.int .i64 x.f0).wf = true
 o1 : x.f1.size ≤ maxLen
 o2 : x.f2.size ≤ maxLen
 o3 : (Lit.int .i64 x.f3).wf = true
 o4 : (Lit.int .i64 x.f4).wf = true
 o5 : (Lit.int .i64 x.f5).wf = true
 o6 : x.f6.Ok w 1 isArg
 o7 : (Lit.int .i64 x.f7).wf = true
 o8 : (Lit.int .i64 x.f8).wf = true
 o9 : (Lit.int .u64 x.f9).wf = true
 o10 : True
def shEntry : List Sh := [.int .i64, .str, .str, .int .i64, .int .i64, .int .i64, .row (.int .u64), .int .i64, .int .i64, .int .u64, .bool]
theorem readEntry {w : World} {cs : List Value} (h : Sh.oks w shEntry cs) : ∃ x : EntryN, x.Ok w ∧ cs = x.cells := by
 unfold shEntry at h
 obtain ⟨x0, r, rfl, w0, g41⟩ := oks_int h
 obtain ⟨x1, r, rfl, w1, g42⟩ := oks_str g41
 obtain ⟨x2, r, rfl, w2, g43⟩ := oks_str g42
 obtain ⟨x3, r, rfl, w3, g44⟩ := oks_int g43
 obtain ⟨x4, r, rfl, w4, g45⟩ := oks_int g44
 obtain ⟨x5, r, rfl, w5, g46⟩ := oks_int g45
 obtain ⟨A6, n6, c6, l6, r, rfl, p6, b6, m6, t6, e6, g47⟩ := oks_row g46
 obtain ⟨x7, r, rfl, w7, g48⟩ := oks_int g47
 obtain ⟨x8, r, rfl, w8, g49⟩ := oks_int g48
 obtain ⟨x9, r, rfl, w9, g50⟩ := oks_int g49
 obtain ⟨x10, r, rfl, g51⟩ := oks_bool g50
 obtain rfl := oks_nil g51
 exact ⟨⟨x0, x1, x2, x3, x4, x5, ⟨A6, n6, c6, l6⟩, x7, x8, x9, x10⟩, ⟨w0, w1, w2, w3, w4, w5, ⟨p6, b6, m6, t6, fun y hy => isArg_of (e6 y hy)⟩, w7, w8, w9, trivial⟩, by simp [EntryN.cells]⟩
structure BlockN where
 f0 : Int
 f1 : RowN
def BlockN.cells (x : BlockN) : List Value := [.int .i64 x.f0, .slice x.f1.A x.f1.n x.f1.cap]
structure BlockN.Ok (w : World) (x : BlockN) : Prop where
 o0 : (Lit.int .i64 x.f0).wf = true
 o1 : x.f1.Ok w 7 isInstr
def shBlock : List Sh := [.int .i64, .row (.tup [.int .u8, .int .i64, .tup [.int .u8, .int .u64], .tup [.int .u8, .int .u64], .int .i64])]
theorem readBlock {w : World} {cs : List Value} (h : Sh.oks w shBlock cs) : ∃ x : BlockN, x.Ok w ∧ cs = x.cells := by
 unfold shBlock at h
 obtain ⟨x0, r, rfl, w0, g53⟩ := oks_int h
 obtain ⟨A1, n1, c1, l1, r, rfl, p1, b1, m1, t1, e1, g54⟩ := oks_row g53
 obtain rfl := oks_nil g54
 exact ⟨⟨x0, ⟨A1, n1, c1, l1⟩⟩, ⟨w0, ⟨p1, b1, m1, t1, fun y hy => isInstr_of (e1 y hy)⟩⟩, by simp [BlockN.cells]⟩
structure GroupN where
 f0 : Int
 f1 : Int
 f2 : Int
 f3 : RowN
def GroupN.cells (x : GroupN) : List Value := [.int .i64 x.f0, .int .u8 x.f1, .int .i64 x.f2, .slice x.f3.A x.f3.n x.f3.cap]
structure GroupN.Ok (w : World) (x : GroupN) : Prop where
 o0 : (Lit.int .i64 x.f0).wf = true
 o1 : (Lit.int .u8 x.f1).wf = true
 o2 : (Lit.int .i64 x.f2).wf = true
 o3 : x.f3.Ok w 2 isBucket
def shGroup : List Sh := [.int .i64, .int .u8, .int .i64, .row (.tup [.int .u64, .int .i64])]
theorem readGroup {w : World} {cs : List Value} (h : Sh.oks w shGroup cs) : ∃ x : GroupN, x.Ok w ∧ cs = x.cells := by
 unfold shGroup at h
 obtain ⟨x0, r, rfl, w0, g56⟩ := oks_int h
 obtain ⟨x1, r, rfl, w1, g57⟩ := oks_int g56
 obtain ⟨x2, r, rfl, w2, g58⟩ := oks_int g57
 obtain ⟨A3, n3, c3, l3, r, rfl, p3, b3, m3, t3, e3, g59⟩ := oks_row g58
 obtain rfl := oks_nil g59
 exact ⟨⟨x0, x1, x2, ⟨A3, n3, c3, l3⟩⟩, ⟨w0, w1, w2, ⟨p3, b3, m3, t3, fun y hy => isBucket_of (e3 y hy)⟩⟩, by simp [GroupN.cells]⟩
structure MeterN where
 f0 : Int
 f1 : Int
 f2 : Int
def MeterN.cells (x : MeterN) : List Value := [.int .i64 x.f0, .int .i64 x.f1, .int .i64 x.f2]
structure MeterN.Ok (w : World) (x : MeterN) : Prop where
 o0 : (Lit.int .i64 x.f0).wf = true
 o1 : (Lit.int .i64 x.f1).wf = true
 o2 : (Lit.int .i64 x.f2).wf = true
def shMeter : List Sh := [.int .i64, .int .i64, .int .i64]
theorem readMeter {w : World} {cs : List Value} (h : Sh.oks w shMeter cs) : ∃ x : MeterN, x.Ok w ∧ cs = x.cells := by
 unfold shMeter at h
 obtain ⟨x0, r, rfl, w0, g61⟩ := oks_int h
 obtain ⟨x1, r, rfl, w1, g62⟩ := oks_int g61
 obtain ⟨x2, r, rfl, w2, g63⟩ := oks_int g62
 obtain rfl := oks_nil g63
 exact ⟨⟨x0, x1, x2⟩, ⟨w0, w1, w2⟩, by simp [MeterN.cells]⟩
structure RegsN where
 f0 : Int
 f1 : Int
def RegsN.cells (x : RegsN) : List Value := [.int .i64 x.f0, .int .i64 x.f1]
structure RegsN.Ok (w : World) (x : RegsN) : Prop where
 o0 : (Lit.int .i64 x.f0).wf = true
 o1 : (Lit.int .i64 x.f1).wf = true
def shRegs : List Sh := [.int .i64, .int .i64]
theorem readRegs {w : World} {cs : List Value} (h : Sh.oks w shRegs cs) : ∃ x : RegsN, x.Ok w ∧ cs = x.cells := by
 unfold shRegs at h
 obtain ⟨x0, r, rfl, w0, g65⟩ := oks_int h
 obtain ⟨x1, r, rfl, w1, g66⟩ := oks_int g65
 obtain rfl := oks_nil g66
 exact ⟨⟨x0, x1⟩, ⟨w0, w1⟩, by simp [RegsN.cells]⟩
structure MsgN where
 f0 : Int
 f1 : Int
 f2 : Int
 f3 : Int
 f4 : Int
 f5 : Int
 f6 : Int
 f7 : Int
 f8 : Int
 f9 : ByteArray
 f10 : RowN
 f11 : NodeN
 f12 : FieldN
 f13 : TableN
 f14 : EntryN
 f15 : BlockN
 f16 : GroupN
 f17 : MeterN
 f18 : RegsN
def MsgN.cells (x : MsgN) : List Value := [.int .u8 x.f0, .int .u32 x.f1, .int .i64 x.f2, .int .i64 x.f3, .int .i64 x.f4, .int .i64 x.f5, .int .i64 x.f6, .int .u64 x.f7, .int .u64 x.f8, .string x.f9, .slice x.f10.A x.f10.n x.f10.cap] ++ (x.f11.cells ++ (x.f12.cells ++ (x.f13.cells ++ (x.f14.cells ++ (x.f15.cells ++ (x.f16.cells ++ (x.f17.cells ++ (x.f18.cells))))))))
structure MsgN.Ok (w : World) (x : MsgN) : Prop where
 o0 : (Lit.int .u8 x.f0).wf = true
 o1 : (Lit.int .u32 x.f1).wf = true
 o2 : (Lit.int .i64 x.f2).wf = true
 o3 : (Lit.int .i64 x.f3).wf = true
 o4 : (Lit.int .i64 x.f4).wf = true
 o5 : (Lit.int .i64 x.f5).wf = true
 o6 : (Lit.int .i64 x.f6).wf = true
 o7 : (Lit.int .u64 x.f7).wf = true
 o8 : (Lit.int .u64 x.f8).wf = true
 o9 : x.f9.size ≤ maxLen
 o10 : x.f10.Ok w 1 isArg
 o11 : x.f11.Ok w
 o12 : x.f12.Ok w
 o13 : x.f13.Ok w
 o14 : x.f14.Ok w
 o15 : x.f15.Ok w
 o16 : x.f16.Ok w
 o17 : x.f17.Ok w
 o18 : x.f18.Ok w
def shMsg : List Sh := [.int .u8, .int .u32, .int .i64, .int .i64, .int .i64, .int .i64, .int .i64, .int .u64, .int .u64, .str, .row (.int .u64), Sh.tup shNode, Sh.tup shField, Sh.tup shTable, Sh.tup shEntry, Sh.tup shBlock, Sh.tup shGroup, Sh.tup shMeter, Sh.tup shRegs]
theorem readMsg {w : World} {cs : List Value} (h : Sh.oks w shMsg cs) : ∃ x : MsgN, x.Ok w ∧ cs = x.cells := by
 unfold shMsg at h
 obtain ⟨x0, r, rfl, w0, g68⟩ := oks_int h
 obtain ⟨x1, r, rfl, w1, g69⟩ := oks_int g68
 obtain ⟨x2, r, rfl, w2, g70⟩ := oks_int g69
 obtain ⟨x3, r, rfl, w3, g71⟩ := oks_int g70
 obtain ⟨x4, r, rfl, w4, g72⟩ := oks_int g71
 obtain ⟨x5, r, rfl, w5, g73⟩ := oks_int g72
 obtain ⟨x6, r, rfl, w6, g74⟩ := oks_int g73
 obtain ⟨x7, r, rfl, w7, g75⟩ := oks_int g74
 obtain ⟨x8, r, rfl, w8, g76⟩ := oks_int g75
 obtain ⟨x9, r, rfl, w9, g77⟩ := oks_str g76
 obtain ⟨A10, n10, c10, l10, r, rfl, p10, b10, m10, t10, e10, g78⟩ := oks_row g77
 obtain ⟨a11, r, rfl, q11, g79⟩ := oks_rec g78
 obtain ⟨x11, w11, rfl⟩ := readNode q11
 obtain ⟨a12, r, rfl, q12, g80⟩ := oks_rec g79
 obtain ⟨x12, w12, rfl⟩ := readField q12
 obtain ⟨a13, r, rfl, q13, g81⟩ := oks_rec g80
 obtain ⟨x13, w13, rfl⟩ := readTable q13
 obtain ⟨a14, r, rfl, q14, g82⟩ := oks_rec g81
 obtain ⟨x14, w14, rfl⟩ := readEntry q14
 obtain ⟨a15, r, rfl, q15, g83⟩ := oks_rec g82
 obtain ⟨x15, w15, rfl⟩ := readBlock q15
 obtain ⟨a16, r, rfl, q16, g84⟩ := oks_rec g83
 obtain ⟨x16, w16, rfl⟩ := readGroup q16
 obtain ⟨a17, r, rfl, q17, g85⟩ := oks_rec g84
 obtain ⟨x17, w17, rfl⟩ := readMeter q17
 obtain ⟨a18, r, rfl, q18, g86⟩ := oks_rec g85
 obtain ⟨x18, w18, rfl⟩ := readRegs q18
 obtain rfl := oks_nil g86
 exact ⟨⟨x0, x1, x2, x3, x4, x5, x6, x7, x8, x9, ⟨A10, n10, c10, l10⟩, x11, x12, x13, x14, x15, x16, x17, x18⟩, ⟨w0, w1, w2, w3, w4, w5, w6, w7, w8, w9, ⟨p10, b10, m10, t10, fun y hy => isArg_of (e10 y hy)⟩, w11, w12, w13, w14, w15, w16, w17, w18⟩, by simp [MsgN.cells]⟩
theorem fitsMsg : Sh.fits Tryz.prog (.tup shMsg) 51 = true := by kernel_rfl
set_option maxRecDepth 100000 in
theorem open_msg {H : Type} {enc : TypeId × Value → H} {w : World} {base : Nat} {r : Reach} {b0 : Nat} {v : Value} {d : DataW H} {p : List MemPlace} (hv : Value.okWide Tryz.prog w r b0 51 v)
 (h : DataW.Trod enc Tryz.prog w base (fun _ => true) true 51 v d p) : ∃ x : MsgN, x.Ok w ∧ v = .agg x.cells.toArray := by
 have q := open_arg (P := Tryz.prog) (t := 51) (s := .tup shMsg) (fs := shMsg) (w := w) (r := r) (b0 := b0) (v := v) (d := d) (p := p) (base := base) (enc := enc) rfl fitsMsg hv h
 obtain ⟨cs, rfl, k⟩ := q
 obtain ⟨x, o, e⟩ := readMsg k
 exact ⟨x, o, by rw [← e]⟩
theorem row_cell {w : World} {a : Addr} {size : Nat} {l : List (List Value)} (h : RowAt w (some a) size l) {j : Nat} {x : List Value} (hx : l[j]? = some x) : (∀ v, x[0]? = some v → w.cell? (a.add (j * size)) = some v) ∧ ∀ i v, x[i + 1]? = some v → w.cell? ⟨(a.add (j * size)).block, (a.add (j * size)).off + (i + 1), none⟩ = some v := by
 have k := (h.cell a rfl j x hx).2
 refine ⟨fun v hv => ?_, fun i v hv => ?_⟩
 · have q := k 0 v hv
   rw [Addr.add_zero'] at q; exact q
 · have q := k (i + 1) v hv
   rw [Addr.add_succ'] at q; exact q
theorem take_one {α : Type} {l k : List α} {j : Nat} {x : α} (h : l.take j = k.take j) (h1 : l[j]? = some x) (h2 : k[j]? = some x) : l.take (j + 1) = k.take (j + 1) := by
 obtain ⟨a, e1⟩ := List.getElem?_eq_some_iff.1 h1
 obtain ⟨b, e2⟩ := List.getElem?_eq_some_iff.1 h2
 rw [List.take_succ_eq_append_getElem a, List.take_succ_eq_append_getElem b, h, e1, e2]
end Go.Proofs.YtoopdhgmdjienaaGreatDoor
