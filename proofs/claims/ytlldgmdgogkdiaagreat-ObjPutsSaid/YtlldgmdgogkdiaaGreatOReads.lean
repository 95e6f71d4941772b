/- The helper reads of layer 8's laws: the object of a kind that bytes are, by the program, by walks. -/
import Derived.Test.YtlldgmdgogkdiaaGreatORepG
namespace Go.Proofs.YtlldgmdgogkdiaaGreat
set_option linter.unusedVariables false
set_option maxRecDepth 20000
open Go.ChangeShapes Go.WideShapes Go.ChangeAt Go.RowKit Go.Joins
open Go.ChangeMaps (open_string shut_string)

abbrev inNode (c0 c1 c2 c3 c4 c5 c6 c7 c8 : Value) : Array Value := #[.int .u8 0, .int .u32 0, .int .i64 0, .int .i64 0, .int .i64 0, .int .i64 0, .int .i64 0, .int .u64 0, .int .u64 0, .string ⟨#[]⟩, .slice none 0 0, c0, c1, c2, c3, c4, c5, c6, c7, c8, .int .i64 0, .int .u8 0, .int .i64 0, .int .i64 0, .int .i64 0, .int .i64 0, .int .u8 0, .slice none 0 0, .int .i64 0, .int .i64 0, .int .i64 0, .string ⟨#[]⟩, .string ⟨#[]⟩, .int .i64 0, .int .i64 0, .int .i64 0, .slice none 0 0, .int .i64 0, .int .i64 0, .int .u64 0, .bool false, .int .i64 0, .slice none 0 0, .int .i64 0, .int .u8 0, .int .i64 0, .slice none 0 0, .int .i64 0, .int .i64 0, .int .i64 0, .int .i64 0, .int .i64 0]
theorem putInNode (c0 c1 c2 c3 c4 c5 c6 c7 c8 : Value) : ((zM : Array Value).toList.take 11 ++ (#[c0, c1, c2, c3, c4, c5, c6, c7, c8] : Array Value).toList ++ (zM : Array Value).toList.drop (11 + (#[c0, c1, c2, c3, c4, c5, c6, c7, c8] : Array Value).size)).toArray = (inNode c0 c1 c2 c3 c4 c5 c6 c7 c8) := rfl
theorem lieInNode (c0 c1 c2 c3 c4 c5 c6 c7 c8 : Value) : 11 + (#[c0, c1, c2, c3, c4, c5, c6, c7, c8] : Array Value).size ≤ (zM : Array Value).size := by show 20 ≤ 52; decide
abbrev inField (c0 c1 c2 c3 c4 : Value) : Array Value := #[.int .u8 0, .int .u32 0, .int .i64 0, .int .i64 0, .int .i64 0, .int .i64 0, .int .i64 0, .int .u64 0, .int .u64 0, .string ⟨#[]⟩, .slice none 0 0, .int .i64 0, .int .i64 0, .int .i64 0, .int .i64 0, .int .i64 0, .int .i64 0, .int .i64 0, .slice none 0 0, .int .i64 0, c0, c1, c2, c3, c4, .int .i64 0, .int .u8 0, .slice none 0 0, .int .i64 0, .int .i64 0, .int .i64 0, .string ⟨#[]⟩, .string ⟨#[]⟩, .int .i64 0, .int .i64 0, .int .i64 0, .slice none 0 0, .int .i64 0, .int .i64 0, .int .u64 0, .bool false, .int .i64 0, .slice none 0 0, .int .i64 0, .int .u8 0, .int .i64 0, .slice none 0 0, .int .i64 0, .int .i64 0, .int .i64 0, .int .i64 0, .int .i64 0]
theorem putInField (c0 c1 c2 c3 c4 : Value) : ((zM : Array Value).toList.take 20 ++ (#[c0, c1, c2, c3, c4] : Array Value).toList ++ (zM : Array Value).toList.drop (20 + (#[c0, c1, c2, c3, c4] : Array Value).size)).toArray = (inField c0 c1 c2 c3 c4) := rfl
theorem lieInField (c0 c1 c2 c3 c4 : Value) : 20 + (#[c0, c1, c2, c3, c4] : Array Value).size ≤ (zM : Array Value).size := by show 25 ≤ 52; decide
abbrev inTable (c0 c1 c2 c3 c4 : Value) : Array Value := #[.int .u8 0, .int .u32 0, .int .i64 0, .int .i64 0, .int .i64 0, .int .i64 0, .int .i64 0, .int .u64 0, .int .u64 0, .string ⟨#[]⟩, .slice none 0 0, .int .i64 0, .int .i64 0, .int .i64 0, .int .i64 0, .int .i64 0, .int .i64 0, .int .i64 0, .slice none 0 0, .int .i64 0, .int .i64 0, .int .u8 0, .int .i64 0, .int .i64 0, .int .i64 0, c0, c1, c2, c3, c4, .int .i64 0, .string ⟨#[]⟩, .string ⟨#[]⟩, .int .i64 0, .int .i64 0, .int .i64 0, .slice none 0 0, .int .i64 0, .int .i64 0, .int .u64 0, .bool false, .int .i64 0, .slice none 0 0, .int .i64 0, .int .u8 0, .int .i64 0, .slice none 0 0, .int .i64 0, .int .i64 0, .int .i64 0, .int .i64 0, .int .i64 0]
theorem putInTable (c0 c1 c2 c3 c4 : Value) : ((zM : Array Value).toList.take 25 ++ (#[c0, c1, c2, c3, c4] : Array Value).toList ++ (zM : Array Value).toList.drop (25 + (#[c0, c1, c2, c3, c4] : Array Value).size)).toArray = (inTable c0 c1 c2 c3 c4) := rfl
theorem lieInTable (c0 c1 c2 c3 c4 : Value) : 25 + (#[c0, c1, c2, c3, c4] : Array Value).size ≤ (zM : Array Value).size := by show 30 ≤ 52; decide
abbrev inEntry (c0 c1 c2 c3 c4 c5 c6 c7 c8 c9 c10 : Value) : Array Value := #[.int .u8 0, .int .u32 0, .int .i64 0, .int .i64 0, .int .i64 0, .int .i64 0, .int .i64 0, .int .u64 0, .int .u64 0, .string ⟨#[]⟩, .slice none 0 0, .int .i64 0, .int .i64 0, .int .i64 0, .int .i64 0, .int .i64 0, .int .i64 0, .int .i64 0, .slice none 0 0, .int .i64 0, .int .i64 0, .int .u8 0, .int .i64 0, .int .i64 0, .int .i64 0, .int .i64 0, .int .u8 0, .slice none 0 0, .int .i64 0, .int .i64 0, c0, c1, c2, c3, c4, c5, c6, c7, c8, c9, c10, .int .i64 0, .slice none 0 0, .int .i64 0, .int .u8 0, .int .i64 0, .slice none 0 0, .int .i64 0, .int .i64 0, .int .i64 0, .int .i64 0, .int .i64 0]
theorem putInEntry (c0 c1 c2 c3 c4 c5 c6 c7 c8 c9 c10 : Value) : ((zM : Array Value).toList.take 30 ++ (#[c0, c1, c2, c3, c4, c5, c6, c7, c8, c9, c10] : Array Value).toList ++ (zM : Array Value).toList.drop (30 + (#[c0, c1, c2, c3, c4, c5, c6, c7, c8, c9, c10] : Array Value).size)).toArray = (inEntry c0 c1 c2 c3 c4 c5 c6 c7 c8 c9 c10) := rfl
theorem lieInEntry (c0 c1 c2 c3 c4 c5 c6 c7 c8 c9 c10 : Value) : 30 + (#[c0, c1, c2, c3, c4, c5, c6, c7, c8, c9, c10] : Array Value).size ≤ (zM : Array Value).size := by show 41 ≤ 52; decide
abbrev inBlock (c0 c1 : Value) : Array Value := #[.int .u8 0, .int .u32 0, .int .i64 0, .int .i64 0, .int .i64 0, .int .i64 0, .int .i64 0, .int .u64 0, .int .u64 0, .string ⟨#[]⟩, .slice none 0 0, .int .i64 0, .int .i64 0, .int .i64 0, .int .i64 0, .int .i64 0, .int .i64 0, .int .i64 0, .slice none 0 0, .int .i64 0, .int .i64 0, .int .u8 0, .int .i64 0, .int .i64 0, .int .i64 0, .int .i64 0, .int .u8 0, .slice none 0 0, .int .i64 0, .int .i64 0, .int .i64 0, .string ⟨#[]⟩, .string ⟨#[]⟩, .int .i64 0, .int .i64 0, .int .i64 0, .slice none 0 0, .int .i64 0, .int .i64 0, .int .u64 0, .bool false, c0, c1, .int .i64 0, .int .u8 0, .int .i64 0, .slice none 0 0, .int .i64 0, .int .i64 0, .int .i64 0, .int .i64 0, .int .i64 0]
theorem putInBlock (c0 c1 : Value) : ((zM : Array Value).toList.take 41 ++ (#[c0, c1] : Array Value).toList ++ (zM : Array Value).toList.drop (41 + (#[c0, c1] : Array Value).size)).toArray = (inBlock c0 c1) := rfl
theorem lieInBlock (c0 c1 : Value) : 41 + (#[c0, c1] : Array Value).size ≤ (zM : Array Value).size := by show 43 ≤ 52; decide
abbrev inGroup (c0 c1 c2 c3 : Value) : Array Value := #[.int .u8 0, .int .u32 0, .int .i64 0, .int .i64 0, .int .i64 0, .int .i64 0, .int .i64 0, .int .u64 0, .int .u64 0, .string ⟨#[]⟩, .slice none 0 0, .int .i64 0, .int .i64 0, .int .i64 0, .int .i64 0, .int .i64 0, .int .i64 0, .int .i64 0, .slice none 0 0, .int .i64 0, .int .i64 0, .int .u8 0, .int .i64 0, .int .i64 0, .int .i64 0, .int .i64 0, .int .u8 0, .slice none 0 0, .int .i64 0, .int .i64 0, .int .i64 0, .string ⟨#[]⟩, .string ⟨#[]⟩, .int .i64 0, .int .i64 0, .int .i64 0, .slice none 0 0, .int .i64 0, .int .i64 0, .int .u64 0, .bool false, .int .i64 0, .slice none 0 0, c0, c1, c2, c3, .int .i64 0, .int .i64 0, .int .i64 0, .int .i64 0, .int .i64 0]
theorem putInGroup (c0 c1 c2 c3 : Value) : ((zM : Array Value).toList.take 43 ++ (#[c0, c1, c2, c3] : Array Value).toList ++ (zM : Array Value).toList.drop (43 + (#[c0, c1, c2, c3] : Array Value).size)).toArray = (inGroup c0 c1 c2 c3) := rfl
theorem lieInGroup (c0 c1 c2 c3 : Value) : 43 + (#[c0, c1, c2, c3] : Array Value).size ≤ (zM : Array Value).size := by show 47 ≤ 52; decide
abbrev inMeter (c0 c1 c2 : Value) : Array Value := #[.int .u8 0, .int .u32 0, .int .i64 0, .int .i64 0, .int .i64 0, .int .i64 0, .int .i64 0, .int .u64 0, .int .u64 0, .string ⟨#[]⟩, .slice none 0 0, .int .i64 0, .int .i64 0, .int .i64 0, .int .i64 0, .int .i64 0, .int .i64 0, .int .i64 0, .slice none 0 0, .int .i64 0, .int .i64 0, .int .u8 0, .int .i64 0, .int .i64 0, .int .i64 0, .int .i64 0, .int .u8 0, .slice none 0 0, .int .i64 0, .int .i64 0, .int .i64 0, .string ⟨#[]⟩, .string ⟨#[]⟩, .int .i64 0, .int .i64 0, .int .i64 0, .slice none 0 0, .int .i64 0, .int .i64 0, .int .u64 0, .bool false, .int .i64 0, .slice none 0 0, .int .i64 0, .int .u8 0, .int .i64 0, .slice none 0 0, c0, c1, c2, .int .i64 0, .int .i64 0]
theorem putInMeter (c0 c1 c2 : Value) : ((zM : Array Value).toList.take 47 ++ (#[c0, c1, c2] : Array Value).toList ++ (zM : Array Value).toList.drop (47 + (#[c0, c1, c2] : Array Value).size)).toArray = (inMeter c0 c1 c2) := rfl
theorem lieInMeter (c0 c1 c2 : Value) : 47 + (#[c0, c1, c2] : Array Value).size ≤ (zM : Array Value).size := by show 50 ≤ 52; decide
abbrev inRegs (c0 c1 : Value) : Array Value := #[.int .u8 0, .int .u32 0, .int .i64 0, .int .i64 0, .int .i64 0, .int .i64 0, .int .i64 0, .int .u64 0, .int .u64 0, .string ⟨#[]⟩, .slice none 0 0, .int .i64 0, .int .i64 0, .int .i64 0, .int .i64 0, .int .i64 0, .int .i64 0, .int .i64 0, .slice none 0 0, .int .i64 0, .int .i64 0, .int .u8 0, .int .i64 0, .int .i64 0, .int .i64 0, .int .i64 0, .int .u8 0, .slice none 0 0, .int .i64 0, .int .i64 0, .int .i64 0, .string ⟨#[]⟩, .string ⟨#[]⟩, .int .i64 0, .int .i64 0, .int .i64 0, .slice none 0 0, .int .i64 0, .int .i64 0, .int .u64 0, .bool false, .int .i64 0, .slice none 0 0, .int .i64 0, .int .u8 0, .int .i64 0, .slice none 0 0, .int .i64 0, .int .i64 0, .int .i64 0, c0, c1]
theorem putInRegs (c0 c1 : Value) : ((zM : Array Value).toList.take 50 ++ (#[c0, c1] : Array Value).toList ++ (zM : Array Value).toList.drop (50 + (#[c0, c1] : Array Value).size)).toArray = (inRegs c0 c1) := rfl
theorem lieInRegs (c0 c1 : Value) : 50 + (#[c0, c1] : Array Value).size ≤ (zM : Array Value).size := by show 52 ≤ 52; decide
theorem oneInNode {c0 c1 c2 c3 c4 c5 c6 c7 c8 : Value} (h : (#[c0, c1, c2, c3, c4, c5, c6, c7, c8] : Array Value).all (·.oneCell') = true) : ((inNode c0 c1 c2 c3 c4 c5 c6 c7 c8) : Array Value).all (·.oneCell') = true := by
  simp only [inNode, List.all_toArray, List.all_cons, List.all_nil, Bool.and_true, Bool.and_eq_true] at h ⊢
  obtain ⟨h0, h1, h2, h3, h4, h5, h6, h7, h8⟩ := h
  exact ⟨rfl, rfl, rfl, rfl, rfl, rfl, rfl, rfl, rfl, rfl, rfl, h0, h1, h2, h3, h4, h5, h6, h7, h8, rfl, rfl, rfl, rfl, rfl, rfl, rfl, rfl, rfl, rfl, rfl, rfl, rfl, rfl, rfl, rfl, rfl, rfl, rfl, rfl, rfl, rfl, rfl, rfl, rfl, rfl, rfl, rfl, rfl, rfl, rfl, rfl⟩
theorem oneInField {c0 c1 c2 c3 c4 : Value} (h : (#[c0, c1, c2, c3, c4] : Array Value).all (·.oneCell') = true) : ((inField c0 c1 c2 c3 c4) : Array Value).all (·.oneCell') = true := by
  simp only [inField, List.all_toArray, List.all_cons, List.all_nil, Bool.and_true, Bool.and_eq_true] at h ⊢
  obtain ⟨h0, h1, h2, h3, h4⟩ := h
  exact ⟨rfl, rfl, rfl, rfl, rfl, rfl, rfl, rfl, rfl, rfl, rfl, rfl, rfl, rfl, rfl, rfl, rfl, rfl, rfl, rfl, h0, h1, h2, h3, h4, rfl, rfl, rfl, rfl, rfl, rfl, rfl, rfl, rfl, rfl, rfl, rfl, rfl, rfl, rfl, rfl, rfl, rfl, rfl, rfl, rfl, rfl, rfl, rfl, rfl, rfl, rfl⟩
theorem oneInTable {c0 c1 c2 c3 c4 : Value} (h : (#[c0, c1, c2, c3, c4] : Array Value).all (·.oneCell') = true) : ((inTable c0 c1 c2 c3 c4) : Array Value).all (·.oneCell') = true := by
  simp only [inTable, List.all_toArray, List.all_cons, List.all_nil, Bool.and_true, Bool.and_eq_true] at h ⊢
  obtain ⟨h0, h1, h2, h3, h4⟩ := h
  exact ⟨rfl, rfl, rfl, rfl, rfl, rfl, rfl, rfl, rfl, rfl, rfl, rfl, rfl, rfl, rfl, rfl, rfl, rfl, rfl, rfl, rfl, rfl, rfl, rfl, rfl, h0, h1, h2, h3, h4, rfl, rfl, rfl, rfl, rfl, rfl, rfl, rfl, rfl, rfl, rfl, rfl, rfl, rfl, rfl, rfl, rfl, rfl, rfl, rfl, rfl, rfl⟩
theorem oneInEntry {c0 c1 c2 c3 c4 c5 c6 c7 c8 c9 c10 : Value} (h : (#[c0, c1, c2, c3, c4, c5, c6, c7, c8, c9, c10] : Array Value).all (·.oneCell') = true) : ((inEntry c0 c1 c2 c3 c4 c5 c6 c7 c8 c9 c10) : Array Value).all (·.oneCell') = true := by
  simp only [inEntry, List.all_toArray, List.all_cons, List.all_nil, Bool.and_true, Bool.and_eq_true] at h ⊢
  obtain ⟨h0, h1, h2, h3, h4, h5, h6, h7, h8, h9, h10⟩ := h
  exact ⟨rfl, rfl, rfl, rfl, rfl, rfl, rfl, rfl, rfl, rfl, rfl, rfl, rfl, rfl, rfl, rfl, rfl, rfl, rfl, rfl, rfl, rfl, rfl, rfl, rfl, rfl, rfl, rfl, rfl, rfl, h0, h1, h2, h3, h4, h5, h6, h7, h8, h9, h10, rfl, rfl, rfl, rfl, rfl, rfl, rfl, rfl, rfl, rfl, rfl⟩
theorem oneInBlock {c0 c1 : Value} (h : (#[c0, c1] : Array Value).all (·.oneCell') = true) : ((inBlock c0 c1) : Array Value).all (·.oneCell') = true := by
  simp only [inBlock, List.all_toArray, List.all_cons, List.all_nil, Bool.and_true, Bool.and_eq_true] at h ⊢
  obtain ⟨h0, h1⟩ := h
  exact ⟨rfl, rfl, rfl, rfl, rfl, rfl, rfl, rfl, rfl, rfl, rfl, rfl, rfl, rfl, rfl, rfl, rfl, rfl, rfl, rfl, rfl, rfl, rfl, rfl, rfl, rfl, rfl, rfl, rfl, rfl, rfl, rfl, rfl, rfl, rfl, rfl, rfl, rfl, rfl, rfl, rfl, h0, h1, rfl, rfl, rfl, rfl, rfl, rfl, rfl, rfl, rfl⟩
theorem oneInGroup {c0 c1 c2 c3 : Value} (h : (#[c0, c1, c2, c3] : Array Value).all (·.oneCell') = true) : ((inGroup c0 c1 c2 c3) : Array Value).all (·.oneCell') = true := by
  simp only [inGroup, List.all_toArray, List.all_cons, List.all_nil, Bool.and_true, Bool.and_eq_true] at h ⊢
  obtain ⟨h0, h1, h2, h3⟩ := h
  exact ⟨rfl, rfl, rfl, rfl, rfl, rfl, rfl, rfl, rfl, rfl, rfl, rfl, rfl, rfl, rfl, rfl, rfl, rfl, rfl, rfl, rfl, rfl, rfl, rfl, rfl, rfl, rfl, rfl, rfl, rfl, rfl, rfl, rfl, rfl, rfl, rfl, rfl, rfl, rfl, rfl, rfl, rfl, rfl, h0, h1, h2, h3, rfl, rfl, rfl, rfl, rfl⟩
theorem oneInMeter {c0 c1 c2 : Value} (h : (#[c0, c1, c2] : Array Value).all (·.oneCell') = true) : ((inMeter c0 c1 c2) : Array Value).all (·.oneCell') = true := by
  simp only [inMeter, List.all_toArray, List.all_cons, List.all_nil, Bool.and_true, Bool.and_eq_true] at h ⊢
  obtain ⟨h0, h1, h2⟩ := h
  exact ⟨rfl, rfl, rfl, rfl, rfl, rfl, rfl, rfl, rfl, rfl, rfl, rfl, rfl, rfl, rfl, rfl, rfl, rfl, rfl, rfl, rfl, rfl, rfl, rfl, rfl, rfl, rfl, rfl, rfl, rfl, rfl, rfl, rfl, rfl, rfl, rfl, rfl, rfl, rfl, rfl, rfl, rfl, rfl, rfl, rfl, rfl, rfl, h0, h1, h2, rfl, rfl⟩
theorem oneInRegs {c0 c1 : Value} (h : (#[c0, c1] : Array Value).all (·.oneCell') = true) : ((inRegs c0 c1) : Array Value).all (·.oneCell') = true := by
  simp only [inRegs, List.all_toArray, List.all_cons, List.all_nil, Bool.and_true, Bool.and_eq_true] at h ⊢
  obtain ⟨h0, h1⟩ := h
  exact ⟨rfl, rfl, rfl, rfl, rfl, rfl, rfl, rfl, rfl, rfl, rfl, rfl, rfl, rfl, rfl, rfl, rfl, rfl, rfl, rfl, rfl, rfl, rfl, rfl, rfl, rfl, rfl, rfl, rfl, rfl, rfl, rfl, rfl, rfl, rfl, rfl, rfl, rfl, rfl, rfl, rfl, rfl, rfl, rfl, rfl, rfl, rfl, rfl, rfl, rfl, h0, h1⟩
def OneM (M : Array Value) : Prop := M.all (·.oneCell') = true
set_option maxHeartbeats 16000000 in
theorem reads_c (s : ByteArray) (w : World) (hs : s.size < 1000000) (k : Nat) (hk : k < 8) {vs : List ValN} {r : Nat} (hr : decG (csKind k) s.data.toList = (vs, r)) :
    Calls Tryz.prog 16 #[.string s, .int .i64 (k : Int)] w fun e w' => ∃ M, e = .returned (.tuple #[.agg M, .int .i64 (r : Int)]) ∧ Wider w w' ∧ RepM w' M (fun j => if j = k then vs else zeroG (csKind j)) ∧ OneM M := by
  have H := ((Own.nil (Wider.refl w)).blk zM 46).blk zM 46
  have z1 : (w.alloc (.cells zM 46)).heap.size = w.heap.size + 1 := by simp
  rw [z1] at H
  clear z1
  have HH := Lib.hid H
  clear H
  obtain rfl | rfl | rfl | rfl | rfl | rfl | rfl | rfl : k = 0 ∨ k = 1 ∨ k = 2 ∨ k = 3 ∨ k = 4 ∨ k = 5 ∨ k = 6 ∨ k = 7 := by omega
  · as_aux_lemma =>
    have hr2 : decG csNode s.data.toList = (vs, r) := hr
    have en : ((0 : Nat) : Int) = 0 := rfl
    clear hr
    go_enter Tryz.func16, Tryz.ntmps16
    go_wp2_with (first
      | (with_reducible refine wpList_store_row rfl 46 (.tmp 6) (.tmp 8) rfl (w.heap.size + 1) zM rfl rfl 46 zM HH.out.head (by kernel_rfl) rfl (by simp [Value.oneCell']) ?_; obtain ⟨g2, h2⟩ := setRow_facts zM HH.out.head)
      | (go_at_call 22; (with_reducible refine (repNode_read s _ hs hr2).mono ?_); rintro e wN ⟨c, rfl, gN, hR⟩; have hX3 := wide_blk h2 gN; obtain ⟨c0, c1, c2, c3, c4, c5, c6, c7, c8, rfl⟩ := arr9 (hR _ (Keeps.refl _ _)).size; have one := (hR _ (Keeps.refl _ _)).one; have h03 := wide_blk (but_blk HH.out.second g2 (by omega)) gN; have E1 := Lib.hid (putInNode c0 c1 c2 c3 c4 c5 c6 c7 c8); have E2 := Lib.hid (lieInNode c0 c1 c2 c3 c4 c5 c6 c7 c8); have ONE := Lib.hid one; clear one)
      | (with_reducible refine wpList_store_part rfl 27 (.tmp 23) (.tmp 21) rfl (w.heap.size + 1) 11 #[c0, c1, c2, c3, c4, c5, c6, c7, c8] rfl rfl 46 zM hX3 (by kernel_rfl) E2.out ONE.out (new := (inNode c0 c1 c2 c3 c4 c5 c6 c7 c8)) E1.out ?_; obtain ⟨g4, h4⟩ := setRow_facts (inNode c0 c1 c2 c3 c4 c5 c6 c7 c8) hX3; have h04 := but_blk h03 g4 (by omega))
      | (with_reducible refine wpList_load_row rfl 46 (.tmp 6) rfl (w.heap.size + 1) rfl 46 (inNode c0 c1 c2 c3 c4 c5 c6 c7 c8) (0, 0) _ h4 Tryz.underlying46 rfl (by kernel_rfl) ?_)
      | (with_reducible refine wpList_store_row rfl 46 (.tmp 4) (.tmp 72) rfl w.heap.size (inNode c0 c1 c2 c3 c4 c5 c6 c7 c8) rfl rfl 46 zM h04 (by kernel_rfl) rfl (oneInNode ONE.out) ?_; obtain ⟨g5, h5⟩ := setRow_facts (inNode c0 c1 c2 c3 c4 c5 c6 c7 c8) h04))
    have n2 : ∀ j ∈ [w.heap.size + 1], w.heap.size ≤ j := by intro j m; simp only [List.mem_singleton] at m; omega
    have n1 : ∀ j ∈ [w.heap.size], w.heap.size ≤ j := by intro j m; simp only [List.mem_singleton] at m; omega
    have W5 := g5.wider (g4.wider ((g2.wider HH.out.wider n2).trans gN) n2) n1
    have hz2 : w.heap.size + 2 ≤ (((w.alloc (.cells zM 46)).alloc (.cells zM 46)).setRow (w.heap.size + 1) zM).heap.size := by simp [World.setRow]
    have k1 := Nat.lt_of_lt_of_le (Nat.lt_succ_self (w.heap.size + 1)) hz2
    have hR5 := hR _ ((g4.keeps k1).trans (g5.keeps (Nat.lt_of_succ_lt k1)))
    have hl := run_loadVar_row (P := Tryz.prog) _ w.heap.size 46 46 _ (0, 0) _ h5 Tryz.underlying46 rfl (by kernel_rfl)
    have onX := oneInNode ONE.out
    clear hz2 k1 g2 g4 g5 h2 h4 h03 h04 hX3 E1 E2 ONE hR
    simp [bodyPost, results, Tryz.results16, asAddr, hl]
    exact ⟨W5, ⟨_, _, _, _, _, _, _, _, _, _, _, _, _, _, _, _, _, _, _, _, _, _, _, _, _, _, _, _, _, _, _, _, _, _, _, _, _, _, _, _, _, _, _, _, _, _, _, _, _, _, _, _, rfl, hR5, zeroField _, zeroTable _, zeroEntry _, zeroBlock _, zeroGroup _, zeroMeter _, zeroRegs _⟩, onX⟩
  · as_aux_lemma =>
    have hr2 : decG csField s.data.toList = (vs, r) := hr
    have en : ((1 : Nat) : Int) = 1 := rfl
    clear hr
    go_enter Tryz.func16, Tryz.ntmps16
    go_wp2_with (first
      | (with_reducible refine wpList_store_row rfl 46 (.tmp 6) (.tmp 8) rfl (w.heap.size + 1) zM rfl rfl 46 zM HH.out.head (by kernel_rfl) rfl (by simp [Value.oneCell']) ?_; obtain ⟨g2, h2⟩ := setRow_facts zM HH.out.head)
      | (go_at_call 21; (with_reducible refine (repField_read s _ hs hr2).mono ?_); rintro e wN ⟨c, rfl, gN, hR⟩; have hX3 := wide_blk h2 gN; obtain ⟨c0, c1, c2, c3, c4, rfl⟩ := arr5 (hR _ (Keeps.refl _ _)).size; have one := (hR _ (Keeps.refl _ _)).one; have h03 := wide_blk (but_blk HH.out.second g2 (by omega)) gN; have E1 := Lib.hid (putInField c0 c1 c2 c3 c4); have E2 := Lib.hid (lieInField c0 c1 c2 c3 c4); have ONE := Lib.hid one; clear one)
      | (with_reducible refine wpList_store_part rfl 29 (.tmp 31) (.tmp 29) rfl (w.heap.size + 1) 20 #[c0, c1, c2, c3, c4] rfl rfl 46 zM hX3 (by kernel_rfl) E2.out ONE.out (new := (inField c0 c1 c2 c3 c4)) E1.out ?_; obtain ⟨g4, h4⟩ := setRow_facts (inField c0 c1 c2 c3 c4) hX3; have h04 := but_blk h03 g4 (by omega))
      | (with_reducible refine wpList_load_row rfl 46 (.tmp 6) rfl (w.heap.size + 1) rfl 46 (inField c0 c1 c2 c3 c4) (0, 0) _ h4 Tryz.underlying46 rfl (by kernel_rfl) ?_)
      | (with_reducible refine wpList_store_row rfl 46 (.tmp 4) (.tmp 72) rfl w.heap.size (inField c0 c1 c2 c3 c4) rfl rfl 46 zM h04 (by kernel_rfl) rfl (oneInField ONE.out) ?_; obtain ⟨g5, h5⟩ := setRow_facts (inField c0 c1 c2 c3 c4) h04))
    have n2 : ∀ j ∈ [w.heap.size + 1], w.heap.size ≤ j := by intro j m; simp only [List.mem_singleton] at m; omega
    have n1 : ∀ j ∈ [w.heap.size], w.heap.size ≤ j := by intro j m; simp only [List.mem_singleton] at m; omega
    have W5 := g5.wider (g4.wider ((g2.wider HH.out.wider n2).trans gN) n2) n1
    have hz2 : w.heap.size + 2 ≤ (((w.alloc (.cells zM 46)).alloc (.cells zM 46)).setRow (w.heap.size + 1) zM).heap.size := by simp [World.setRow]
    have k1 := Nat.lt_of_lt_of_le (Nat.lt_succ_self (w.heap.size + 1)) hz2
    have hR5 := hR _ ((g4.keeps k1).trans (g5.keeps (Nat.lt_of_succ_lt k1)))
    have hl := run_loadVar_row (P := Tryz.prog) _ w.heap.size 46 46 _ (0, 0) _ h5 Tryz.underlying46 rfl (by kernel_rfl)
    have onX := oneInField ONE.out
    clear hz2 k1 g2 g4 g5 h2 h4 h03 h04 hX3 E1 E2 ONE hR
    simp [bodyPost, results, Tryz.results16, asAddr, hl]
    exact ⟨W5, ⟨_, _, _, _, _, _, _, _, _, _, _, _, _, _, _, _, _, _, _, _, _, _, _, _, _, _, _, _, _, _, _, _, _, _, _, _, _, _, _, _, _, _, _, _, _, _, _, _, _, _, _, _, rfl, zeroNode _, hR5, zeroTable _, zeroEntry _, zeroBlock _, zeroGroup _, zeroMeter _, zeroRegs _⟩, onX⟩
  · as_aux_lemma =>
    have hr2 : decG csTable s.data.toList = (vs, r) := hr
    have en : ((2 : Nat) : Int) = 2 := rfl
    clear hr
    go_enter Tryz.func16, Tryz.ntmps16
    go_wp2_with (first
      | (with_reducible refine wpList_store_row rfl 46 (.tmp 6) (.tmp 8) rfl (w.heap.size + 1) zM rfl rfl 46 zM HH.out.head (by kernel_rfl) rfl (by simp [Value.oneCell']) ?_; obtain ⟨g2, h2⟩ := setRow_facts zM HH.out.head)
      | (go_at_call 23; (with_reducible refine (repTable_read s _ hs hr2).mono ?_); rintro e wN ⟨c, rfl, gN, hR⟩; have hX3 := wide_blk h2 gN; obtain ⟨c0, c1, c2, c3, c4, rfl⟩ := arr5 (hR _ (Keeps.refl _ _)).size; have one := (hR _ (Keeps.refl _ _)).one; have h03 := wide_blk (but_blk HH.out.second g2 (by omega)) gN; have E1 := Lib.hid (putInTable c0 c1 c2 c3 c4); have E2 := Lib.hid (lieInTable c0 c1 c2 c3 c4); have ONE := Lib.hid one; clear one)
      | (with_reducible refine wpList_store_part rfl 32 (.tmp 39) (.tmp 37) rfl (w.heap.size + 1) 25 #[c0, c1, c2, c3, c4] rfl rfl 46 zM hX3 (by kernel_rfl) E2.out ONE.out (new := (inTable c0 c1 c2 c3 c4)) E1.out ?_; obtain ⟨g4, h4⟩ := setRow_facts (inTable c0 c1 c2 c3 c4) hX3; have h04 := but_blk h03 g4 (by omega))
      | (with_reducible refine wpList_load_row rfl 46 (.tmp 6) rfl (w.heap.size + 1) rfl 46 (inTable c0 c1 c2 c3 c4) (0, 0) _ h4 Tryz.underlying46 rfl (by kernel_rfl) ?_)
      | (with_reducible refine wpList_store_row rfl 46 (.tmp 4) (.tmp 72) rfl w.heap.size (inTable c0 c1 c2 c3 c4) rfl rfl 46 zM h04 (by kernel_rfl) rfl (oneInTable ONE.out) ?_; obtain ⟨g5, h5⟩ := setRow_facts (inTable c0 c1 c2 c3 c4) h04))
    have n2 : ∀ j ∈ [w.heap.size + 1], w.heap.size ≤ j := by intro j m; simp only [List.mem_singleton] at m; omega
    have n1 : ∀ j ∈ [w.heap.size], w.heap.size ≤ j := by intro j m; simp only [List.mem_singleton] at m; omega
    have W5 := g5.wider (g4.wider ((g2.wider HH.out.wider n2).trans gN) n2) n1
    have hz2 : w.heap.size + 2 ≤ (((w.alloc (.cells zM 46)).alloc (.cells zM 46)).setRow (w.heap.size + 1) zM).heap.size := by simp [World.setRow]
    have k1 := Nat.lt_of_lt_of_le (Nat.lt_succ_self (w.heap.size + 1)) hz2
    have hR5 := hR _ ((g4.keeps k1).trans (g5.keeps (Nat.lt_of_succ_lt k1)))
    have hl := run_loadVar_row (P := Tryz.prog) _ w.heap.size 46 46 _ (0, 0) _ h5 Tryz.underlying46 rfl (by kernel_rfl)
    have onX := oneInTable ONE.out
    clear hz2 k1 g2 g4 g5 h2 h4 h03 h04 hX3 E1 E2 ONE hR
    simp [bodyPost, results, Tryz.results16, asAddr, hl]
    exact ⟨W5, ⟨_, _, _, _, _, _, _, _, _, _, _, _, _, _, _, _, _, _, _, _, _, _, _, _, _, _, _, _, _, _, _, _, _, _, _, _, _, _, _, _, _, _, _, _, _, _, _, _, _, _, _, _, rfl, zeroNode _, zeroField _, hR5, zeroEntry _, zeroBlock _, zeroGroup _, zeroMeter _, zeroRegs _⟩, onX⟩
  · as_aux_lemma =>
    have hr2 : decG csEntry s.data.toList = (vs, r) := hr
    have en : ((3 : Nat) : Int) = 3 := rfl
    clear hr
    go_enter Tryz.func16, Tryz.ntmps16
    go_wp2_with (first
      | (with_reducible refine wpList_store_row rfl 46 (.tmp 6) (.tmp 8) rfl (w.heap.size + 1) zM rfl rfl 46 zM HH.out.head (by kernel_rfl) rfl (by simp [Value.oneCell']) ?_; obtain ⟨g2, h2⟩ := setRow_facts zM HH.out.head)
      | (go_at_call 20; (with_reducible refine (repEntry_read s _ hs hr2).mono ?_); rintro e wN ⟨c, rfl, gN, hR⟩; have hX3 := wide_blk h2 gN; obtain ⟨c0, c1, c2, c3, c4, c5, c6, c7, c8, c9, c10, rfl⟩ := arr11 (hR _ (Keeps.refl _ _)).size; have one := (hR _ (Keeps.refl _ _)).one; have h03 := wide_blk (but_blk HH.out.second g2 (by omega)) gN; have E1 := Lib.hid (putInEntry c0 c1 c2 c3 c4 c5 c6 c7 c8 c9 c10); have E2 := Lib.hid (lieInEntry c0 c1 c2 c3 c4 c5 c6 c7 c8 c9 c10); have ONE := Lib.hid one; clear one)
      | (with_reducible refine wpList_store_part rfl 34 (.tmp 47) (.tmp 45) rfl (w.heap.size + 1) 30 #[c0, c1, c2, c3, c4, c5, c6, c7, c8, c9, c10] rfl rfl 46 zM hX3 (by kernel_rfl) E2.out ONE.out (new := (inEntry c0 c1 c2 c3 c4 c5 c6 c7 c8 c9 c10)) E1.out ?_; obtain ⟨g4, h4⟩ := setRow_facts (inEntry c0 c1 c2 c3 c4 c5 c6 c7 c8 c9 c10) hX3; have h04 := but_blk h03 g4 (by omega))
      | (with_reducible refine wpList_load_row rfl 46 (.tmp 6) rfl (w.heap.size + 1) rfl 46 (inEntry c0 c1 c2 c3 c4 c5 c6 c7 c8 c9 c10) (0, 0) _ h4 Tryz.underlying46 rfl (by kernel_rfl) ?_)
      | (with_reducible refine wpList_store_row rfl 46 (.tmp 4) (.tmp 72) rfl w.heap.size (inEntry c0 c1 c2 c3 c4 c5 c6 c7 c8 c9 c10) rfl rfl 46 zM h04 (by kernel_rfl) rfl (oneInEntry ONE.out) ?_; obtain ⟨g5, h5⟩ := setRow_facts (inEntry c0 c1 c2 c3 c4 c5 c6 c7 c8 c9 c10) h04))
    have n2 : ∀ j ∈ [w.heap.size + 1], w.heap.size ≤ j := by intro j m; simp only [List.mem_singleton] at m; omega
    have n1 : ∀ j ∈ [w.heap.size], w.heap.size ≤ j := by intro j m; simp only [List.mem_singleton] at m; omega
    have W5 := g5.wider (g4.wider ((g2.wider HH.out.wider n2).trans gN) n2) n1
    have hz2 : w.heap.size + 2 ≤ (((w.alloc (.cells zM 46)).alloc (.cells zM 46)).setRow (w.heap.size + 1) zM).heap.size := by simp [World.setRow]
    have k1 := Nat.lt_of_lt_of_le (Nat.lt_succ_self (w.heap.size + 1)) hz2
    have hR5 := hR _ ((g4.keeps k1).trans (g5.keeps (Nat.lt_of_succ_lt k1)))
    have hl := run_loadVar_row (P := Tryz.prog) _ w.heap.size 46 46 _ (0, 0) _ h5 Tryz.underlying46 rfl (by kernel_rfl)
    have onX := oneInEntry ONE.out
    clear hz2 k1 g2 g4 g5 h2 h4 h03 h04 hX3 E1 E2 ONE hR
    simp [bodyPost, results, Tryz.results16, asAddr, hl]
    exact ⟨W5, ⟨_, _, _, _, _, _, _, _, _, _, _, _, _, _, _, _, _, _, _, _, _, _, _, _, _, _, _, _, _, _, _, _, _, _, _, _, _, _, _, _, _, _, _, _, _, _, _, _, _, _, _, _, rfl, zeroNode _, zeroField _, zeroTable _, hR5, zeroBlock _, zeroGroup _, zeroMeter _, zeroRegs _⟩, onX⟩
  · as_aux_lemma =>
    have hr2 : decG csBlock s.data.toList = (vs, r) := hr
    have en : ((4 : Nat) : Int) = 4 := rfl
    clear hr
    go_enter Tryz.func16, Tryz.ntmps16
    go_wp2_with (first
      | (with_reducible refine wpList_store_row rfl 46 (.tmp 6) (.tmp 8) rfl (w.heap.size + 1) zM rfl rfl 46 zM HH.out.head (by kernel_rfl) rfl (by simp [Value.oneCell']) ?_; obtain ⟨g2, h2⟩ := setRow_facts zM HH.out.head)
      | (go_at_call 72; (with_reducible refine (repBlock_read s _ hs hr2).mono ?_); rintro e wN ⟨c, rfl, gN, hR⟩; have hX3 := wide_blk h2 gN; obtain ⟨c0, c1, rfl⟩ := arr2 (hR _ (Keeps.refl _ _)).size; have one := (hR _ (Keeps.refl _ _)).one; have h03 := wide_blk (but_blk HH.out.second g2 (by omega)) gN; have E1 := Lib.hid (putInBlock c0 c1); have E2 := Lib.hid (lieInBlock c0 c1); have ONE := Lib.hid one; clear one)
      | (with_reducible refine wpList_store_part rfl 37 (.tmp 55) (.tmp 53) rfl (w.heap.size + 1) 41 #[c0, c1] rfl rfl 46 zM hX3 (by kernel_rfl) E2.out ONE.out (new := (inBlock c0 c1)) E1.out ?_; obtain ⟨g4, h4⟩ := setRow_facts (inBlock c0 c1) hX3; have h04 := but_blk h03 g4 (by omega))
      | (with_reducible refine wpList_load_row rfl 46 (.tmp 6) rfl (w.heap.size + 1) rfl 46 (inBlock c0 c1) (0, 0) _ h4 Tryz.underlying46 rfl (by kernel_rfl) ?_)
      | (with_reducible refine wpList_store_row rfl 46 (.tmp 4) (.tmp 72) rfl w.heap.size (inBlock c0 c1) rfl rfl 46 zM h04 (by kernel_rfl) rfl (oneInBlock ONE.out) ?_; obtain ⟨g5, h5⟩ := setRow_facts (inBlock c0 c1) h04))
    have n2 : ∀ j ∈ [w.heap.size + 1], w.heap.size ≤ j := by intro j m; simp only [List.mem_singleton] at m; omega
    have n1 : ∀ j ∈ [w.heap.size], w.heap.size ≤ j := by intro j m; simp only [List.mem_singleton] at m; omega
    have W5 := g5.wider (g4.wider ((g2.wider HH.out.wider n2).trans gN) n2) n1
    have hz2 : w.heap.size + 2 ≤ (((w.alloc (.cells zM 46)).alloc (.cells zM 46)).setRow (w.heap.size + 1) zM).heap.size := by simp [World.setRow]
    have k1 := Nat.lt_of_lt_of_le (Nat.lt_succ_self (w.heap.size + 1)) hz2
    have hR5 := hR _ ((g4.keeps k1).trans (g5.keeps (Nat.lt_of_succ_lt k1)))
    have hl := run_loadVar_row (P := Tryz.prog) _ w.heap.size 46 46 _ (0, 0) _ h5 Tryz.underlying46 rfl (by kernel_rfl)
    have onX := oneInBlock ONE.out
    clear hz2 k1 g2 g4 g5 h2 h4 h03 h04 hX3 E1 E2 ONE hR
    simp [bodyPost, results, Tryz.results16, asAddr, hl]
    exact ⟨W5, ⟨_, _, _, _, _, _, _, _, _, _, _, _, _, _, _, _, _, _, _, _, _, _, _, _, _, _, _, _, _, _, _, _, _, _, _, _, _, _, _, _, _, _, _, _, _, _, _, _, _, _, _, _, rfl, zeroNode _, zeroField _, zeroTable _, zeroEntry _, hR5, zeroGroup _, zeroMeter _, zeroRegs _⟩, onX⟩
  · as_aux_lemma =>
    have hr2 : decG csGroup s.data.toList = (vs, r) := hr
    have en : ((5 : Nat) : Int) = 5 := rfl
    clear hr
    go_enter Tryz.func16, Tryz.ntmps16
    go_wp2_with (first
      | (with_reducible refine wpList_store_row rfl 46 (.tmp 6) (.tmp 8) rfl (w.heap.size + 1) zM rfl rfl 46 zM HH.out.head (by kernel_rfl) rfl (by simp [Value.oneCell']) ?_; obtain ⟨g2, h2⟩ := setRow_facts zM HH.out.head)
      | (go_at_call 73; (with_reducible refine (repGroup_read s _ hs hr2).mono ?_); rintro e wN ⟨c, rfl, gN, hR⟩; have hX3 := wide_blk h2 gN; obtain ⟨c0, c1, c2, c3, rfl⟩ := arr4 (hR _ (Keeps.refl _ _)).size; have one := (hR _ (Keeps.refl _ _)).one; have h03 := wide_blk (but_blk HH.out.second g2 (by omega)) gN; have E1 := Lib.hid (putInGroup c0 c1 c2 c3); have E2 := Lib.hid (lieInGroup c0 c1 c2 c3); have ONE := Lib.hid one; clear one)
      | (with_reducible refine wpList_store_part rfl 40 (.tmp 63) (.tmp 61) rfl (w.heap.size + 1) 43 #[c0, c1, c2, c3] rfl rfl 46 zM hX3 (by kernel_rfl) E2.out ONE.out (new := (inGroup c0 c1 c2 c3)) E1.out ?_; obtain ⟨g4, h4⟩ := setRow_facts (inGroup c0 c1 c2 c3) hX3; have h04 := but_blk h03 g4 (by omega))
      | (with_reducible refine wpList_load_row rfl 46 (.tmp 6) rfl (w.heap.size + 1) rfl 46 (inGroup c0 c1 c2 c3) (0, 0) _ h4 Tryz.underlying46 rfl (by kernel_rfl) ?_)
      | (with_reducible refine wpList_store_row rfl 46 (.tmp 4) (.tmp 72) rfl w.heap.size (inGroup c0 c1 c2 c3) rfl rfl 46 zM h04 (by kernel_rfl) rfl (oneInGroup ONE.out) ?_; obtain ⟨g5, h5⟩ := setRow_facts (inGroup c0 c1 c2 c3) h04))
    have n2 : ∀ j ∈ [w.heap.size + 1], w.heap.size ≤ j := by intro j m; simp only [List.mem_singleton] at m; omega
    have n1 : ∀ j ∈ [w.heap.size], w.heap.size ≤ j := by intro j m; simp only [List.mem_singleton] at m; omega
    have W5 := g5.wider (g4.wider ((g2.wider HH.out.wider n2).trans gN) n2) n1
    have hz2 : w.heap.size + 2 ≤ (((w.alloc (.cells zM 46)).alloc (.cells zM 46)).setRow (w.heap.size + 1) zM).heap.size := by simp [World.setRow]
    have k1 := Nat.lt_of_lt_of_le (Nat.lt_succ_self (w.heap.size + 1)) hz2
    have hR5 := hR _ ((g4.keeps k1).trans (g5.keeps (Nat.lt_of_succ_lt k1)))
    have hl := run_loadVar_row (P := Tryz.prog) _ w.heap.size 46 46 _ (0, 0) _ h5 Tryz.underlying46 rfl (by kernel_rfl)
    have onX := oneInGroup ONE.out
    clear hz2 k1 g2 g4 g5 h2 h4 h03 h04 hX3 E1 E2 ONE hR
    simp [bodyPost, results, Tryz.results16, asAddr, hl]
    exact ⟨W5, ⟨_, _, _, _, _, _, _, _, _, _, _, _, _, _, _, _, _, _, _, _, _, _, _, _, _, _, _, _, _, _, _, _, _, _, _, _, _, _, _, _, _, _, _, _, _, _, _, _, _, _, _, _, rfl, zeroNode _, zeroField _, zeroTable _, zeroEntry _, zeroBlock _, hR5, zeroMeter _, zeroRegs _⟩, onX⟩
  · as_aux_lemma =>
    have hr2 : decG csMeter s.data.toList = (vs, r) := hr
    have en : ((6 : Nat) : Int) = 6 := rfl
    clear hr
    go_enter Tryz.func16, Tryz.ntmps16
    go_wp2_with (first
      | (with_reducible refine wpList_store_row rfl 46 (.tmp 6) (.tmp 8) rfl (w.heap.size + 1) zM rfl rfl 46 zM HH.out.head (by kernel_rfl) rfl (by simp [Value.oneCell']) ?_; obtain ⟨g2, h2⟩ := setRow_facts zM HH.out.head)
      | (go_at_call 27; (with_reducible refine (repMeter_read s _ hs hr2).mono ?_); rintro e wN ⟨c, rfl, gN, hR⟩; have hX3 := wide_blk h2 gN; obtain ⟨c0, c1, c2, rfl⟩ := arr3 (hR _ (Keeps.refl _ _)).size; have one := (hR _ (Keeps.refl _ _)).one; have h03 := wide_blk (but_blk HH.out.second g2 (by omega)) gN; have E1 := Lib.hid (putInMeter c0 c1 c2); have E2 := Lib.hid (lieInMeter c0 c1 c2); have ONE := Lib.hid one; clear one)
      | (with_reducible refine wpList_store_part rfl 42 (.tmp 71) (.tmp 69) rfl (w.heap.size + 1) 47 #[c0, c1, c2] rfl rfl 46 zM hX3 (by kernel_rfl) E2.out ONE.out (new := (inMeter c0 c1 c2)) E1.out ?_; obtain ⟨g4, h4⟩ := setRow_facts (inMeter c0 c1 c2) hX3; have h04 := but_blk h03 g4 (by omega))
      | (with_reducible refine wpList_load_row rfl 46 (.tmp 6) rfl (w.heap.size + 1) rfl 46 (inMeter c0 c1 c2) (0, 0) _ h4 Tryz.underlying46 rfl (by kernel_rfl) ?_)
      | (with_reducible refine wpList_store_row rfl 46 (.tmp 4) (.tmp 72) rfl w.heap.size (inMeter c0 c1 c2) rfl rfl 46 zM h04 (by kernel_rfl) rfl (oneInMeter ONE.out) ?_; obtain ⟨g5, h5⟩ := setRow_facts (inMeter c0 c1 c2) h04))
    have n2 : ∀ j ∈ [w.heap.size + 1], w.heap.size ≤ j := by intro j m; simp only [List.mem_singleton] at m; omega
    have n1 : ∀ j ∈ [w.heap.size], w.heap.size ≤ j := by intro j m; simp only [List.mem_singleton] at m; omega
    have W5 := g5.wider (g4.wider ((g2.wider HH.out.wider n2).trans gN) n2) n1
    have hz2 : w.heap.size + 2 ≤ (((w.alloc (.cells zM 46)).alloc (.cells zM 46)).setRow (w.heap.size + 1) zM).heap.size := by simp [World.setRow]
    have k1 := Nat.lt_of_lt_of_le (Nat.lt_succ_self (w.heap.size + 1)) hz2
    have hR5 := hR _ ((g4.keeps k1).trans (g5.keeps (Nat.lt_of_succ_lt k1)))
    have hl := run_loadVar_row (P := Tryz.prog) _ w.heap.size 46 46 _ (0, 0) _ h5 Tryz.underlying46 rfl (by kernel_rfl)
    have onX := oneInMeter ONE.out
    clear hz2 k1 g2 g4 g5 h2 h4 h03 h04 hX3 E1 E2 ONE hR
    simp [bodyPost, results, Tryz.results16, asAddr, hl]
    exact ⟨W5, ⟨_, _, _, _, _, _, _, _, _, _, _, _, _, _, _, _, _, _, _, _, _, _, _, _, _, _, _, _, _, _, _, _, _, _, _, _, _, _, _, _, _, _, _, _, _, _, _, _, _, _, _, _, rfl, zeroNode _, zeroField _, zeroTable _, zeroEntry _, zeroBlock _, zeroGroup _, hR5, zeroRegs _⟩, onX⟩
  · as_aux_lemma =>
    have hr2 : decG csRegs s.data.toList = (vs, r) := hr
    have en : ((7 : Nat) : Int) = 7 := rfl
    clear hr
    go_enter Tryz.func16, Tryz.ntmps16
    go_wp2_with (first
      | (with_reducible refine wpList_store_row rfl 46 (.tmp 6) (.tmp 8) rfl (w.heap.size + 1) zM rfl rfl 46 zM HH.out.head (by kernel_rfl) rfl (by simp [Value.oneCell']) ?_; obtain ⟨g2, h2⟩ := setRow_facts zM HH.out.head)
      | (go_at_call 74; (with_reducible refine (repRegs_read s _ hs hr2).mono ?_); rintro e wN ⟨c, rfl, gN, hR⟩; have hX3 := wide_blk h2 gN; obtain ⟨c0, c1, rfl⟩ := arr2 (hR _ (Keeps.refl _ _)).size; have one := (hR _ (Keeps.refl _ _)).one; have h03 := wide_blk (but_blk HH.out.second g2 (by omega)) gN; have E1 := Lib.hid (putInRegs c0 c1); have E2 := Lib.hid (lieInRegs c0 c1); have ONE := Lib.hid one; clear one)
      | (with_reducible refine wpList_store_part rfl 44 (.tmp 15) (.tmp 13) rfl (w.heap.size + 1) 50 #[c0, c1] rfl rfl 46 zM hX3 (by kernel_rfl) E2.out ONE.out (new := (inRegs c0 c1)) E1.out ?_; obtain ⟨g4, h4⟩ := setRow_facts (inRegs c0 c1) hX3; have h04 := but_blk h03 g4 (by omega))
      | (with_reducible refine wpList_load_row rfl 46 (.tmp 6) rfl (w.heap.size + 1) rfl 46 (inRegs c0 c1) (0, 0) _ h4 Tryz.underlying46 rfl (by kernel_rfl) ?_)
      | (with_reducible refine wpList_store_row rfl 46 (.tmp 4) (.tmp 72) rfl w.heap.size (inRegs c0 c1) rfl rfl 46 zM h04 (by kernel_rfl) rfl (oneInRegs ONE.out) ?_; obtain ⟨g5, h5⟩ := setRow_facts (inRegs c0 c1) h04))
    have n2 : ∀ j ∈ [w.heap.size + 1], w.heap.size ≤ j := by intro j m; simp only [List.mem_singleton] at m; omega
    have n1 : ∀ j ∈ [w.heap.size], w.heap.size ≤ j := by intro j m; simp only [List.mem_singleton] at m; omega
    have W5 := g5.wider (g4.wider ((g2.wider HH.out.wider n2).trans gN) n2) n1
    have hz2 : w.heap.size + 2 ≤ (((w.alloc (.cells zM 46)).alloc (.cells zM 46)).setRow (w.heap.size + 1) zM).heap.size := by simp [World.setRow]
    have k1 := Nat.lt_of_lt_of_le (Nat.lt_succ_self (w.heap.size + 1)) hz2
    have hR5 := hR _ ((g4.keeps k1).trans (g5.keeps (Nat.lt_of_succ_lt k1)))
    have hl := run_loadVar_row (P := Tryz.prog) _ w.heap.size 46 46 _ (0, 0) _ h5 Tryz.underlying46 rfl (by kernel_rfl)
    have onX := oneInRegs ONE.out
    clear hz2 k1 g2 g4 g5 h2 h4 h03 h04 hX3 E1 E2 ONE hR
    simp [bodyPost, results, Tryz.results16, asAddr, hl]
    exact ⟨W5, ⟨_, _, _, _, _, _, _, _, _, _, _, _, _, _, _, _, _, _, _, _, _, _, _, _, _, _, _, _, _, _, _, _, _, _, _, _, _, _, _, _, _, _, _, _, _, _, _, _, _, _, _, _, rfl, zeroNode _, zeroField _, zeroTable _, zeroEntry _, zeroBlock _, zeroGroup _, zeroMeter _, hR5⟩, onX⟩
end Go.Proofs.YtlldgmdgogkdiaaGreat
