/- Package rang: several sets side by side. -/
import Derived.Test.YtpdhahghpdckeaaVLaw
namespace Go.Proofs.Ytpdhahghpdckeaa
set_option linter.unusedVariables false
open Go.ChangeShapes Go.WideShapes Go.ChangeAt Go.RowKit Go.Joins

abbrev thingsR (S : Nat) (wv iv : Value) (ws : List Nat) (L : List ItR) : List Thing := [setT S wv iv ws, rowW wv ws, rowR iv L]
/-- What is done with a set of two leaves the other one. -/
theorem RangTwo.on {V w : World} {R : List Thing} {S N T K N' : Nat} {ws us : List Nat} {L L' M : List ItR} (h : RangTwo V w R S ws L N T us M K) {f : FuncId} {args : Array Value} {P : Ending → Prop}
    (k : ∀ R', RangIs V w R' S ws L N → Calls Try.prog f args w fun e w' => P e ∧ RangIs V w' R' S ws L' N') : Calls Try.prog f args w fun e w' => P e ∧ RangTwo V w' R S ws L' N' T us M K := by
  obtain ⟨wv, iv, h1, h2⟩ := h
  exact (k _ h1).mono fun e w' ⟨e1, h3⟩ => ⟨e1, wv, iv, h3, h2⟩
/-- As it is read. -/
theorem RangTwo.see {V w : World} {R : List Thing} {S N T K : Nat} {ws us : List Nat} {L M : List ItR} (h : RangTwo V w R S ws L N T us M K) : ∃ R', RangIs V w R' S ws L N := by
  obtain ⟨wv, iv, h1, h2⟩ := h
  exact ⟨_, h1⟩
structure SetQ where
  S : Nat
  ws : List Nat
  L : List ItR
  N : Nat
def RangThree (V w : World) (R : List Thing) (p q r : SetQ) : Prop := ∃ wv iv wv2 iv2, RangIs V w (thingsR q.S wv iv q.ws q.L ++ (thingsR r.S wv2 iv2 r.ws r.L ++ R)) p.S p.ws p.L p.N ∧ GoodR q.ws q.L q.N ∧ GoodR r.ws r.L r.N
theorem RangThree.rot {V w : World} {R : List Thing} {p q r : SetQ} (h : RangThree V w R p q r) : RangThree V w R q r p := by
  obtain ⟨wv, iv, wv2, iv2, ⟨wv3, iv3, H, h1⟩, h2, h3⟩ := h
  refine ⟨wv2, iv2, wv3, iv3, ⟨wv, iv, H.perm ?_, h2⟩, h3, h1⟩
  have c : (thingsR p.S wv3 iv3 p.ws p.L ++ (thingsR q.S wv iv q.ws q.L ++ (thingsR r.S wv2 iv2 r.ws r.L ++ R))).Perm (thingsR q.S wv iv q.ws q.L ++ (thingsR r.S wv2 iv2 r.ws r.L ++ (thingsR p.S wv3 iv3 p.ws p.L ++ R))) := by
    have a : (thingsR p.S wv3 iv3 p.ws p.L ++ (thingsR q.S wv iv q.ws q.L ++ (thingsR r.S wv2 iv2 r.ws r.L ++ R))).Perm (thingsR q.S wv iv q.ws q.L ++ (thingsR p.S wv3 iv3 p.ws p.L ++ (thingsR r.S wv2 iv2 r.ws r.L ++ R))) := List.perm_append_comm_assoc _ _ _
    exact a.trans (List.Perm.append_left _ (List.perm_append_comm_assoc _ _ _))
  exact c
theorem RangThree.quiet {V w w' : World} {R : List Thing} {p q r : SetQ} (h : RangThree V w R p q r) (g : Wider w w') : RangThree V w' R p q r := by
  obtain ⟨wv, iv, wv2, iv2, h1, h2⟩ := h
  exact ⟨wv, iv, wv2, iv2, h1.quiet g, h2⟩
theorem RangThree.wider {V w : World} {R : List Thing} {p q r : SetQ} (h : RangThree V w R p q r) : Wider V w := by
  obtain ⟨wv, iv, wv2, iv2, h1, h2⟩ := h
  exact h1.wider
theorem RangThree.see {V w : World} {R : List Thing} {p q r : SetQ} (h : RangThree V w R p q r) : ∃ R', RangIs V w R' p.S p.ws p.L p.N := by
  obtain ⟨wv, iv, wv2, iv2, h1, h2⟩ := h
  exact ⟨_, h1⟩
theorem RangThree.on {V w : World} {R : List Thing} {p q r : SetQ} (h : RangThree V w R p q r) {L' : List ItR} {N' : Nat} {f : FuncId} {args : Array Value} {P : Ending → Prop}
    (k : ∀ R', RangIs V w R' p.S p.ws p.L p.N → Calls Try.prog f args w fun e w' => P e ∧ RangIs V w' R' p.S p.ws L' N') : Calls Try.prog f args w fun e w' => P e ∧ RangThree V w' R ⟨p.S, p.ws, L', N'⟩ q r := by
  obtain ⟨wv, iv, wv2, iv2, h1, h2⟩ := h
  exact (k _ h1).mono fun e w' ⟨e1, h3⟩ => ⟨e1, wv, iv, wv2, iv2, h3, h2⟩
/-- A second, and a third set. -/
theorem vnew2_o {V w : World} {R : List Thing} {S N : Nat} {us : List Nat} {L : List ItR} (h : RangIs V w R S us L N) {A : Option Addr} {n c : Nat} {ws : List Nat} (hz : WidthsAt w A ws) (hn : ws.length = n) (h1 : 1 ≤ n) (h4 : n ≤ 4) (h16 : ∀ m ∈ ws, 1 ≤ m ∧ m ≤ 16) :
    Calls Try.prog 9 #[.slice A n c] w fun e w' => ∃ T, e = .returned (.tuple #[.pointer (some ⟨T, 0, none⟩), .int .i64 0]) ∧ RangTwo V w' R T ws [] 0 S us L N := by
  obtain ⟨wv, iv, H, hl⟩ := h
  exact (vnew_o H hz hn h1 h4 h16).mono fun e w' ⟨T, e1, k⟩ => ⟨T, e1, wv, iv, k, hl⟩
theorem vnew3_o {V w : World} {R : List Thing} {S N T K : Nat} {us ts : List Nat} {L M : List ItR} (h : RangTwo V w R S us L N T ts M K) {A : Option Addr} {n c : Nat} {ws : List Nat} (hz : WidthsAt w A ws) (hn : ws.length = n) (h1 : 1 ≤ n) (h4 : n ≤ 4) (h16 : ∀ m ∈ ws, 1 ≤ m ∧ m ≤ 16) :
    Calls Try.prog 9 #[.slice A n c] w fun e w' => ∃ X, e = .returned (.tuple #[.pointer (some ⟨X, 0, none⟩), .int .i64 0]) ∧ RangThree V w' R ⟨X, ws, [], 0⟩ ⟨S, us, L, N⟩ ⟨T, ts, M, K⟩ := by
  obtain ⟨wv, iv, ⟨wv2, iv2, H, hl⟩, hk⟩ := h
  exact (vnew_o H hz hn h1 h4 h16).mono fun e w' ⟨X, e1, k⟩ => ⟨X, e1, wv2, iv2, wv, iv, k, hl, hk⟩
theorem RangTwo.blk {V w : World} {R : List Thing} {S N T K : Nat} {ws us : List Nat} {L M : List ItR} (h : RangTwo V w R S ws L N T us M K) (C : Array Value) (t : TypeId) : RangTwo V (w.alloc (.cells C t)) R S ws L N T us M K := h.quiet ((Wider.refl w).alloc _)

/-- Put, whether it is refused or not. -/
theorem vput_x {V w : World} {R : List Thing} {S N : Nat} {ws : List Nat} {L : List ItR} (h : RangIs V w R S ws L N) (hN : N < 99990) {low high : ByteArray} {prio v : Int} {r : Int} {M : List ItR}
    (hr : (FormR ws ⟨low, high, prio, v⟩ ∧ r = 0 ∧ M = butR L ⟨low, high, prio, v⟩ ++ [⟨low, high, prio, v⟩]) ∨ (¬ FormR ws ⟨low, high, prio, v⟩ ∧ r = 3 ∧ M = L)) :
    Calls Try.prog 10 #[.pointer (some ⟨S, 0, none⟩), .string low, .string high, .int .i64 prio, .int .i64 v] w fun e w' => e = .returned (.int .i64 r) ∧ RangIs V w' R S ws M (N + 1) := by
  rcases hr with ⟨c, rfl, rfl⟩ | ⟨c, rfl, rfl⟩
  · exact vput_o h hN c rfl
  · exact (vputbad_o h c).mono fun e w' ⟨e1, g⟩ => ⟨e1, (h.quiet g).up (by omega)⟩

/-! ### One range -/
theorem find_some (ws : List Nat) (key : ByteArray) (x : ItR) (hk : key.size = ws.sum) {b : Bool} (hb : inK ws key x = b) : (findR ws key [x]).isSome = b := by
  have e : findR ws key [x] = if inK ws key x = true then some x else none := by
    unfold findR
    rw [if_pos hk]
    show pickR ws key none x = _
    cases c : inK ws key x with
    | false => rw [pick_no c]; rfl
    | true => rw [pick_none c]; rfl
  rw [e, hb]
  cases b <;> rfl
theorem find_is (ws : List Nat) (key : ByteArray) (x : ItR) (hk : key.size = ws.sum) (hb : inK ws key x = true) : ((findR ws key [x]).isSome && (numR (findR ws key [x]) == x.v)) = true := by
  have e : findR ws key [x] = some x := by
    unfold findR
    rw [if_pos hk]
    exact pick_none hb
  rw [e]
  simp [numR]

theorem find_one (ws : List Nat) (key : ByteArray) (x : ItR) (hk : key.size = ws.sum) : findR ws key [x] = if inK ws key x = true then some x else none := by
  unfold findR
  rw [if_pos hk]
  show pickR ws key none x = _
  cases c : inK ws key x with
  | false => rw [pick_no c]; rfl
  | true => rw [pick_none c]; rfl
theorem ext_ext2 (s : ByteArray) : (s.extract 0 2).extract 0 2 = s.extract 0 2 := by
  apply ba_ext
  rw [extract_list, extract_list]
  simp [List.take_take]
theorem ext_ext3 (s : ByteArray) : (s.extract 2 3).extract 0 1 = s.extract 2 3 := by
  apply ba_ext
  rw [extract_list, extract_list]
  simp [List.drop_take, List.take_take]
theorem size_ext2 (s : ByteArray) (h : s.size = 3) : (s.extract 0 2).size = 2 := by rw [ByteArray.size_extract, h]; rfl
theorem size_ext3 (s : ByteArray) (h : s.size = 3) : (s.extract 2 3).size = 1 := by rw [ByteArray.size_extract, h]; rfl
theorem inK_2 (k lo hi : ByteArray) (p v : Int) : inK [2] (k.extract 0 2) ⟨lo.extract 0 2, hi.extract 0 2, p, v⟩ = inB (k.extract 0 2) (lo.extract 0 2) (hi.extract 0 2) := by
  unfold inK inF inF
  rw [Nat.zero_add, Bool.and_true, ext_ext2, ext_ext2, ext_ext2]
theorem inK_1 (k lo hi : ByteArray) (p v : Int) : inK [1] (k.extract 2 3) ⟨lo.extract 2 3, hi.extract 2 3, p, v⟩ = inB (k.extract 2 3) (lo.extract 2 3) (hi.extract 2 3) := by
  unfold inK inF inF
  rw [Nat.zero_add, Bool.and_true, ext_ext3, ext_ext3, ext_ext3]
theorem inK_parts (k lo hi : ByteArray) (p v : Int) : inK [2, 1] k ⟨lo, hi, p, v⟩ = (inK [2] (k.extract 0 2) ⟨lo.extract 0 2, hi.extract 0 2, p, v⟩ && inK [1] (k.extract 2 3) ⟨lo.extract 2 3, hi.extract 2 3, p, v⟩) := by
  rw [inK_2, inK_1]
  unfold inK inF inF inF
  simp
theorem form_parts {lo hi : ByteArray} {p v : Int} (hl : lo.size = 3) (hh : hi.size = 3) :
    (FormR [2, 1] ⟨lo, hi, p, v⟩ ↔ inK [2, 1] lo ⟨lo, hi, p, v⟩ = true) ∧ (FormR [2] ⟨lo.extract 0 2, hi.extract 0 2, p, v⟩ ↔ inK [2] (lo.extract 0 2) ⟨lo.extract 0 2, hi.extract 0 2, p, v⟩ = true) ∧
      (FormR [1] ⟨lo.extract 2 3, hi.extract 2 3, p, v⟩ ↔ inK [1] (lo.extract 2 3) ⟨lo.extract 2 3, hi.extract 2 3, p, v⟩ = true) :=
  ⟨⟨fun h => h.2.2, fun h => ⟨hl, hh, h⟩⟩, ⟨fun h => h.2.2, fun h => ⟨size_ext2 lo hl, size_ext2 hi hh, h⟩⟩, ⟨fun h => h.2.2, fun h => ⟨size_ext3 lo hl, size_ext3 hi hh, h⟩⟩⟩

end Go.Proofs.Ytpdhahghpdckeaa
