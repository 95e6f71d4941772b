/- Texts that belong together, one behind the other: PNamesM PNamesL. -/
import Derived.Test.YtilpimilbjcifaaGreatDoorPG5
import Derived.Test.YtilpimilbjcifaaGreatDoorPG6
import Derived.Test.YtilpimilbjcifaaGreatDoorOLit
import Derived.Test.YtilpimilbjcifaaGreatDoorSMake
import Derived.Test.YtilpimilbjcifaaGreatDoorPG1

/- The messages and bodies of the law ProtoNames, and its helpers' calls on them. -/
namespace Go.Proofs.YtilpimilbjcifaaGreatDoor
set_option linter.unusedVariables false
set_option maxRecDepth 20000
open Go.ChangeShapes Go.WideShapes Go.ChangeAt Go.RowKit Go.Joins
open Go.ChangeMaps (open_string shut_string)

theorem decM_err (k b1 b2 b3 b4 : UInt8) (rest : List UInt8) (h1 : 1 ≤ k.toNat) (h2 : k.toNat ≤ 46) (hl : rest.length ≤ 16000) {m : List AtN} {c : Nat} (hd : decA [] 0 rest = (m, c)) (hc : c ≠ 0) :
    decM (k :: b1 :: b2 :: b3 :: b4 :: rest) = ((0, 0, zeroP), c) := by
  have e : (decG (csM 65535 k.toNat) rest).2 = c := by unfold decG; rw [hd, if_neg hc]
  have l : (k :: b1 :: b2 :: b3 :: b4 :: rest).length = rest.length + 5 := rfl
  unfold decM
  rw [if_neg (by omega), if_neg (by omega)]
  show (if k.toNat < 1 ∨ 46 < k.toNat then _ else _) = _
  rw [if_neg (by omega)]
  show (if (decG (csM 65535 k.toNat) rest).2 = 0 then _ else ((0, 0, zeroP), (decG (csM 65535 k.toNat) rest).2)) = _
  rw [e, if_neg hc]
theorem decM_kind (k b1 b2 b3 b4 : UInt8) (rest : List UInt8) (h : k.toNat < 1 ∨ 46 < k.toNat) (hl : rest.length ≤ 16000) : decM (k :: b1 :: b2 :: b3 :: b4 :: rest) = ((0, 0, zeroP), 15) := by
  have l : (k :: b1 :: b2 :: b3 :: b4 :: rest).length = rest.length + 5 := rfl
  unfold decM
  rw [if_neg (by omega), if_neg (by omega)]
  show (if k.toNat < 1 ∨ 46 < k.toNat then _ else _) = _
  rw [if_pos h]
theorem not_may {k : Nat} {ps : List PartN} (i : Nat) {c : Cod PartN} {v : PartN} (hc : (csM topD k)[i]? = some c) (hv : ps[i]? = some v) (h : ¬ c.ok v) : ¬ MayM k ps := fun m => h (okG_at _ _ i _ _ m.2 hc hv)
theorem not_kind {k : Nat} {ps : List PartN} (h : k < 1 ∨ 46 < k) : ¬ MayM k ps := fun m => by have := m.1; omega
theorem not_else {k i : Nat} {ps : List PartN} {v : PartN} (hi : i < 17) (hk : i + 1 ∉ hasL k) (hv : ps[i]? = some v) (h : v ≠ (partC topD i).zero) : ¬ MayM k ps :=
  not_may i (csM_at topD k i hi) hv (by rw [if_neg hk]; exact h)
theorem not_num {k i : Nat} {ps : List PartN} {v : Int} (hi : i < 5) (hk : i + 1 ∈ hasL k) (hv : ps[i]? = some (.one (.num v))) (h : ¬ (0 ≤ v ∧ v ≤ 2147483647)) : ¬ MayM k ps := by
  refine not_may i (csM_at topD k i (by omega)) hv ?_
  rw [if_pos hk]
  have e : partC topD i = oneP nI := by
    match i, hi with
    | 0, _ | 1, _ | 2, _ | 3, _ | 4, _ => rfl
    | i + 5, h => omega
  rw [e]
  rintro ⟨u, e1, e2⟩
  injection e1 with e1
  subst e1
  exact h (numV_okN.1 e2)

def ps7 : List PartN := ((zeroP.set 1 (.one (.num 300))).set 3 (.one (.num 3))).set 5 (.one (.num 1))
theorem ex7 : MayM 39 ps7 ∧ bodyM 39 4294967295 ps7 = [39, 255, 255, 255, 255, 2, 0, 2, 1, 44, 4, 0, 1, 3, 6, 0, 1, 1] := by
  have d : decA [] 0 [2, 0, 2, 1, 44, 4, 0, 1, 3, 6, 0, 1, 1] = ([⟨2, mkB [1, 44]⟩, ⟨4, mkB [3]⟩, ⟨6, mkB [1]⟩], 0) := by
    rw [decA_some, if_neg (by decide), if_neg (by decide)]
    show decA [⟨2, mkB [1, 44]⟩] 2 [4, 0, 1, 3, 6, 0, 1, 1] = _
    rw [decA_some, if_neg (by decide), if_neg (by decide)]
    show decA [⟨2, mkB [1, 44]⟩, ⟨4, mkB [3]⟩] 4 [6, 0, 1, 1] = _
    rw [decA_some, if_neg (by decide), if_neg (by decide)]
    show decA [⟨2, mkB [1, 44]⟩, ⟨4, mkB [3]⟩, ⟨6, mkB [1]⟩] 6 [] = _
    rw [decA_nil]
  have s : readG (csM 65535 39) zeroP [⟨2, mkB [1, 44]⟩, ⟨4, mkB [3]⟩, ⟨6, mkB [1]⟩] = some ps7 := by kernel_rfl
  have q : decM [39, 255, 255, 255, 255, 2, 0, 2, 1, 44, 4, 0, 1, 3, 6, 0, 1, 1] = ((39, 4294967295, ps7), 0) := decM_ok 39 255 255 255 255 [2, 0, 2, 1, 44, 4, 0, 1, 3, 6, 0, 1, 1] (by decide) (by decide) (by decide) d s
  exact ⟨(decM_inv q).1, (decM_inv q).2.2.1⟩
def exM7 : Array Value := (((headM 39 4294967295).setIfInBounds 5 (.int .i64 3)).setIfInBounds 3 (.int .i64 300)).setIfInBounds 7 (.int .u64 1)
theorem exM7_rep (w : World) : ∃ d, RepD w exM7 d ∧ d.kind = ((39 : Nat) : Int) ∧ d.xid = ((4294967295 : Nat) : Int) ∧ d.ps = ps7 :=
  ⟨_, (((headM_rep w 39 4294967295 (by decide) (by decide)).set3 3 rfl).set1 300 rfl).set5 1 rfl, rfl, rfl, rfl⟩
theorem nm7 (W : World) (K : KindsAt W) : Calls Tryz.prog 14 #[.agg exM7, .string ⟨#[39, 255, 255, 255, 255, 2, 0, 2, 1, 44, 4, 0, 1, 3, 6, 0, 1, 1]⟩] W fun e w' => e = .returned (.bool true) ∧ Wider W w' := by
  obtain ⟨d, R, h1, h2, h3⟩ := exM7_rep W
  exact pis_c W R K 39 4294967295 (by decide) (by decide) h1 h2 (by rw [h3]; exact ex7.1) (by rw [h3, ex7.2]; decide) (by rw [h3, ex7.2]; rfl)
def ps9 : List PartN := (zeroP.set 3 (.one (.num 2))).set 7 (.one (.txt ⟨#[0]⟩))
theorem ex9 : MayM 40 ps9 ∧ bodyM 40 0 ps9 = [40, 0, 0, 0, 0, 4, 0, 1, 2, 8, 0, 1, 0] := by
  have d : decA [] 0 [4, 0, 1, 2, 8, 0, 1, 0] = ([⟨4, mkB [2]⟩, ⟨8, mkB [0]⟩], 0) := by
    rw [decA_some, if_neg (by decide), if_neg (by decide)]
    show decA [⟨4, mkB [2]⟩] 4 [8, 0, 1, 0] = _
    rw [decA_some, if_neg (by decide), if_neg (by decide)]
    show decA [⟨4, mkB [2]⟩, ⟨8, mkB [0]⟩] 8 [] = _
    rw [decA_nil]
  have s : readG (csM 65535 40) zeroP [⟨4, mkB [2]⟩, ⟨8, mkB [0]⟩] = some ps9 := by kernel_rfl
  have q : decM [40, 0, 0, 0, 0, 4, 0, 1, 2, 8, 0, 1, 0] = ((40, 0, ps9), 0) := decM_ok 40 0 0 0 0 [4, 0, 1, 2, 8, 0, 1, 0] (by decide) (by decide) (by decide) d s
  exact ⟨(decM_inv q).1, (decM_inv q).2.2.1⟩
def exM9 : Array Value := ((headM 40 0).setIfInBounds 5 (.int .i64 2)).setIfInBounds 9 (.string ⟨#[0]⟩)
theorem exM9_rep (w : World) : ∃ d, RepD w exM9 d ∧ d.kind = ((40 : Nat) : Int) ∧ d.xid = ((0 : Nat) : Int) ∧ d.ps = ps9 :=
  ⟨_, ((headM_rep w 40 0 (by decide) (by decide)).set3 2 rfl).set7 ⟨#[0]⟩ (by decide), rfl, rfl, rfl⟩
theorem nm9 (W : World) (K : KindsAt W) : Calls Tryz.prog 14 #[.agg exM9, .string ⟨#[40, 0, 0, 0, 0, 4, 0, 1, 2, 8, 0, 1, 0]⟩] W fun e w' => e = .returned (.bool true) ∧ Wider W w' := by
  obtain ⟨d, R, h1, h2, h3⟩ := exM9_rep W
  exact pis_c W R K 40 0 (by decide) (by decide) h1 h2 (by rw [h3]; exact ex9.1) (by rw [h3, ex9.2]; decide) (by rw [h3, ex9.2]; rfl)
def ps10 : List PartN := ((zeroP.set 0 (.one (.num 2147483647))).set 5 (.one (.num 18446744073709551615))).set 6 (.one (.num 256))
theorem ex10 : MayM 30 ps10 ∧ bodyM 30 0 ps10 = [30, 0, 0, 0, 0, 1, 0, 4, 127, 255, 255, 255, 6, 0, 8, 255, 255, 255, 255, 255, 255, 255, 255, 7, 0, 2, 1, 0] := by
  have d : decA [] 0 [1, 0, 4, 127, 255, 255, 255, 6, 0, 8, 255, 255, 255, 255, 255, 255, 255, 255, 7, 0, 2, 1, 0] = ([⟨1, mkB [127, 255, 255, 255]⟩, ⟨6, mkB [255, 255, 255, 255, 255, 255, 255, 255]⟩, ⟨7, mkB [1, 0]⟩], 0) := by
    rw [decA_some, if_neg (by decide), if_neg (by decide)]
    show decA [⟨1, mkB [127, 255, 255, 255]⟩] 1 [6, 0, 8, 255, 255, 255, 255, 255, 255, 255, 255, 7, 0, 2, 1, 0] = _
    rw [decA_some, if_neg (by decide), if_neg (by decide)]
    show decA [⟨1, mkB [127, 255, 255, 255]⟩, ⟨6, mkB [255, 255, 255, 255, 255, 255, 255, 255]⟩] 6 [7, 0, 2, 1, 0] = _
    rw [decA_some, if_neg (by decide), if_neg (by decide)]
    show decA [⟨1, mkB [127, 255, 255, 255]⟩, ⟨6, mkB [255, 255, 255, 255, 255, 255, 255, 255]⟩, ⟨7, mkB [1, 0]⟩] 7 [] = _
    rw [decA_nil]
  have s : readG (csM 65535 30) zeroP [⟨1, mkB [127, 255, 255, 255]⟩, ⟨6, mkB [255, 255, 255, 255, 255, 255, 255, 255]⟩, ⟨7, mkB [1, 0]⟩] = some ps10 := by kernel_rfl
  have q : decM [30, 0, 0, 0, 0, 1, 0, 4, 127, 255, 255, 255, 6, 0, 8, 255, 255, 255, 255, 255, 255, 255, 255, 7, 0, 2, 1, 0] = ((30, 0, ps10), 0) := decM_ok 30 0 0 0 0 [1, 0, 4, 127, 255, 255, 255, 6, 0, 8, 255, 255, 255, 255, 255, 255, 255, 255, 7, 0, 2, 1, 0] (by decide) (by decide) (by decide) d s
  exact ⟨(decM_inv q).1, (decM_inv q).2.2.1⟩
def exM10 : Array Value := (((headM 30 0).setIfInBounds 2 (.int .i64 2147483647)).setIfInBounds 7 (.int .u64 18446744073709551615)).setIfInBounds 8 (.int .u64 256)
theorem exM10_rep (w : World) : ∃ d, RepD w exM10 d ∧ d.kind = ((30 : Nat) : Int) ∧ d.xid = ((0 : Nat) : Int) ∧ d.ps = ps10 :=
  ⟨_, (((headM_rep w 30 0 (by decide) (by decide)).set0 2147483647 rfl).set5 18446744073709551615 rfl).set6 256 rfl, rfl, rfl, rfl⟩
theorem nm10 (W : World) (K : KindsAt W) : Calls Tryz.prog 14 #[.agg exM10, .string ⟨#[30, 0, 0, 0, 0, 1, 0, 4, 127, 255, 255, 255, 6, 0, 8, 255, 255, 255, 255, 255, 255, 255, 255, 7, 0, 2, 1, 0]⟩] W fun e w' => e = .returned (.bool true) ∧ Wider W w' := by
  obtain ⟨d, R, h1, h2, h3⟩ := exM10_rep W
  exact pis_c W R K 30 0 (by decide) (by decide) h1 h2 (by rw [h3]; exact ex10.1) (by rw [h3, ex10.2]; decide) (by rw [h3, ex10.2]; rfl)
def ps11 : List PartN := zeroP.set 0 (.one (.num 1))
theorem ex11 : MayM 26 ps11 ∧ bodyM 26 0 ps11 = [26, 0, 0, 0, 0, 1, 0, 1, 1] := by
  have d : decA [] 0 [1, 0, 1, 1] = ([⟨1, mkB [1]⟩], 0) := by
    rw [decA_some, if_neg (by decide), if_neg (by decide)]
    show decA [⟨1, mkB [1]⟩] 1 [] = _
    rw [decA_nil]
  have s : readG (csM 65535 26) zeroP [⟨1, mkB [1]⟩] = some ps11 := by kernel_rfl
  have q : decM [26, 0, 0, 0, 0, 1, 0, 1, 1] = ((26, 0, ps11), 0) := decM_ok 26 0 0 0 0 [1, 0, 1, 1] (by decide) (by decide) (by decide) d s
  exact ⟨(decM_inv q).1, (decM_inv q).2.2.1⟩
def exM11 : Array Value := (headM 26 0).setIfInBounds 2 (.int .i64 1)
theorem exM11_rep (w : World) : ∃ d, RepD w exM11 d ∧ d.kind = ((26 : Nat) : Int) ∧ d.xid = ((0 : Nat) : Int) ∧ d.ps = ps11 :=
  ⟨_, (headM_rep w 26 0 (by decide) (by decide)).set0 1 rfl, rfl, rfl, rfl⟩
theorem nm11 (W : World) (K : KindsAt W) : Calls Tryz.prog 14 #[.agg exM11, .string ⟨#[26, 0, 0, 0, 0, 1, 0, 1, 1]⟩] W fun e w' => e = .returned (.bool true) ∧ Wider W w' := by
  obtain ⟨d, R, h1, h2, h3⟩ := exM11_rep W
  exact pis_c W R K 26 0 (by decide) (by decide) h1 h2 (by rw [h3]; exact ex11.1) (by rw [h3, ex11.2]; decide) (by rw [h3, ex11.2]; rfl)
def entV : List ValN := ((zeroG csEntry).set 0 (.num 1)).set 1 (.txt ⟨#[107]⟩)
abbrev entC : Array Value := #[.int .i64 1, .string ⟨#[107]⟩, .string ⟨#[]⟩, .int .i64 0, .int .i64 0, .int .i64 0, .slice none 0 0, .int .i64 0, .int .i64 0, .int .u64 0, .bool false]
theorem entC_rep (w : World) : RepEntry w entC entV := ⟨1, 0, 0, 0, 0, 0, 0, ⟨#[107]⟩, ⟨#[]⟩, false, none, 0, 0, [], rfl, rfl, rfl, by decide, Nat.zero_le _, rfl, rfl, rfl, rfl, rfl, rfl, ⟨fun _ => rfl, fun a e => by cases e⟩, rfl, by decide, fun x hx => by cases hx⟩
def ps8 : List PartN := (zeroP.set 4 (.one (.num 2))).set 12 (.obj entV)
theorem ex8 : MayM 42 ps8 ∧ bodyM 42 0 ps8 = [42, 0, 0, 0, 0, 5, 0, 1, 2, 13, 0, 8, 1, 0, 1, 1, 2, 0, 1, 107] := by
  have d : decA [] 0 [5, 0, 1, 2, 13, 0, 8, 1, 0, 1, 1, 2, 0, 1, 107] = ([⟨5, mkB [2]⟩, ⟨13, mkB [1, 0, 1, 1, 2, 0, 1, 107]⟩], 0) := by
    rw [decA_some, if_neg (by decide), if_neg (by decide)]
    show decA [⟨5, mkB [2]⟩] 5 [13, 0, 8, 1, 0, 1, 1, 2, 0, 1, 107] = _
    rw [decA_some, if_neg (by decide), if_neg (by decide)]
    show decA [⟨5, mkB [2]⟩, ⟨13, mkB [1, 0, 1, 1, 2, 0, 1, 107]⟩] 13 [] = _
    rw [decA_nil]
  have di : decA [] 0 [1, 0, 1, 1, 2, 0, 1, 107] = ([⟨1, mkB [1]⟩, ⟨2, mkB [107]⟩], 0) := by
    rw [decA_some, if_neg (by decide), if_neg (by decide)]
    show decA [⟨1, mkB [1]⟩] 1 [2, 0, 1, 107] = _
    rw [decA_some, if_neg (by decide), if_neg (by decide)]
    show decA [⟨1, mkB [1]⟩, ⟨2, mkB [107]⟩] 2 [] = _
    rw [decA_nil]
  have de : decG csEntry [1, 0, 1, 1, 2, 0, 1, 107] = (entV, 0) := by
    unfold decG; rw [di]; simp only [if_true]
    rw [show readG csEntry (zeroG csEntry) [⟨1, mkB [1]⟩, ⟨2, mkB [107]⟩] = some entV by kernel_rfl]
  have s1 : stepG (csM 65535 42) zeroP ⟨5, mkB [2]⟩ = some (zeroP.set 4 (.one (.num 2))) := by kernel_rfl
  have s2 : stepG (csM 65535 42) (zeroP.set 4 (.one (.num 2))) ⟨13, mkB [1, 0, 1, 1, 2, 0, 1, 107]⟩ = some ps8 := by
    rw [stepM_yes (by decide) (by decide)]
    have e : (partC 65535 12).dec (mkB [1, 0, 1, 1, 2, 0, 1, 107]) = some (.obj entV) := by
      rw [dec_obj 65535 3 (mkB [1, 0, 1, 1, 2, 0, 1, 107]) (vs := entV) (r := 0) (by rw [mkB_data]; exact de)]; rfl
    show ((partC 65535 12).dec (mkB [1, 0, 1, 1, 2, 0, 1, 107])).map _ = _
    rw [e]; rfl
  have s : readG (csM 65535 42) zeroP [⟨5, mkB [2]⟩, ⟨13, mkB [1, 0, 1, 1, 2, 0, 1, 107]⟩] = some ps8 := by
    unfold readG; rw [s1]; dsimp only
    unfold readG; rw [s2]; rfl
  have q : decM [42, 0, 0, 0, 0, 5, 0, 1, 2, 13, 0, 8, 1, 0, 1, 1, 2, 0, 1, 107] = ((42, 0, ps8), 0) := decM_ok 42 0 0 0 0 [5, 0, 1, 2, 13, 0, 8, 1, 0, 1, 1, 2, 0, 1, 107] (by decide) (by decide) (by decide) d s
  exact ⟨(decM_inv q).1, (decM_inv q).2.2.1⟩
def exM8 : Array Value := setPart ((headM 42 0).setIfInBounds 6 (.int .i64 2)) 30 entC
theorem exM8_rep (w : World) : ∃ d, RepD w exM8 d ∧ d.kind = ((42 : Nat) : Int) ∧ d.xid = ((0 : Nat) : Int) ∧ d.ps = ps8 :=
  ⟨_, ((headM_rep w 42 0 (by decide) (by decide)).set4 2 rfl).set12 (entC_rep w), rfl, rfl, rfl⟩
theorem nm8 (W : World) (K : KindsAt W) : Calls Tryz.prog 14 #[.agg exM8, .string ⟨#[42, 0, 0, 0, 0, 5, 0, 1, 2, 13, 0, 8, 1, 0, 1, 1, 2, 0, 1, 107]⟩] W fun e w' => e = .returned (.bool true) ∧ Wider W w' := by
  obtain ⟨d, R, h1, h2, h3⟩ := exM8_rep W
  exact pis_c W R K 42 0 (by decide) (by decide) h1 h2 (by rw [h3]; exact ex8.1) (by rw [h3, ex8.2]; decide) (by rw [h3, ex8.2]; rfl)
def nt1 : Array Value := headM 47 0
theorem nt1_c (W : World) (K : KindsAt W) : Calls Tryz.prog 20 #[.agg nt1] W fun e w' => e = .returned (.bool true) ∧ Wider W w' :=
  pnot_c W (headM_rep W 47 0 (by decide) (by decide)) K 47 0 (by decide) (by decide) rfl rfl (not_kind (.inr (by decide)))
abbrev nt0 : Array Value := zM
theorem nt0_c (W : World) (K : KindsAt W) : Calls Tryz.prog 20 #[.agg nt0] W fun e w' => e = .returned (.bool true) ∧ Wider W w' :=
  pnot_c W ((zM_repK 0 W).here) K 0 0 (by decide) (by decide) rfl rfl (not_kind (.inl (by decide)))
def nt2 : Array Value := (headM 1 0).setIfInBounds 2 (.int .i64 1)
theorem nt2_c (W : World) (K : KindsAt W) : Calls Tryz.prog 20 #[.agg nt2] W fun e w' => e = .returned (.bool true) ∧ Wider W w' :=
  pnot_c W ((headM_rep W 1 0 (by decide) (by decide)).set0 1 rfl) K 1 0 (by decide) (by decide) rfl rfl (not_else (i := 0) (v := .one (.num 1)) (by decide) (by decide) rfl (fun e => by injection e with e; injection e with e; exact absurd e (by decide)))
def nt3 : Array Value := (headM 12 0).setIfInBounds 2 (.int .i64 (-1))
theorem nt3_c (W : World) (K : KindsAt W) : Calls Tryz.prog 20 #[.agg nt3] W fun e w' => e = .returned (.bool true) ∧ Wider W w' :=
  pnot_c W ((headM_rep W 12 0 (by decide) (by decide)).set0 (-1) rfl) K 12 0 (by decide) (by decide) rfl rfl (not_num (i := 0) (v := -1) (by decide) (by decide) rfl (by decide))
def nt4 : Array Value := (headM 12 0).setIfInBounds 2 (.int .i64 2147483648)
theorem nt4_c (W : World) (K : KindsAt W) : Calls Tryz.prog 20 #[.agg nt4] W fun e w' => e = .returned (.bool true) ∧ Wider W w' :=
  pnot_c W ((headM_rep W 12 0 (by decide) (by decide)).set0 2147483648 rfl) K 12 0 (by decide) (by decide) rfl rfl (not_num (i := 0) (v := 2147483648) (by decide) (by decide) rfl (by decide))
def nt5 : Array Value := (headM 1 0).setIfInBounds 3 (.int .i64 (-1))
theorem nt5_c (W : World) (K : KindsAt W) : Calls Tryz.prog 20 #[.agg nt5] W fun e w' => e = .returned (.bool true) ∧ Wider W w' :=
  pnot_c W ((headM_rep W 1 0 (by decide) (by decide)).set1 (-1) rfl) K 1 0 (by decide) (by decide) rfl rfl (not_else (i := 1) (v := .one (.num (-1))) (by decide) (by decide) rfl (fun e => by injection e with e; injection e with e; exact absurd e (by decide)))
theorem regs_rep (w : World) : RepRegs w #[.int .i64 0, .int .i64 (-1)] [.num 0, .num (-1)] := ⟨0, -1, rfl, rfl, rfl, rfl⟩
def nt6 : Array Value := setPart (headM 25 0) 50 #[.int .i64 0, .int .i64 (-1)]
theorem nt6_c (W : World) (K : KindsAt W) : Calls Tryz.prog 20 #[.agg nt6] W fun e w' => e = .returned (.bool true) ∧ Wider W w' :=
  pnot_c W ((headM_rep W 25 0 (by decide) (by decide)).set16 (regs_rep W)) K 25 0 (by decide) (by decide) rfl rfl (not_may 16 (csM_at topD 25 16 (by decide)) (v := .obj [.num 0, .num (-1)]) rfl (by rw [if_pos (by decide)]; rintro ⟨vs, e, h⟩; injection e with e; subst e; exact absurd (numV_okN.1 h.2.1).1 (by decide)))
theorem node_rep (w : World) : RepNode w #[.int .i64 1, .int .i64 0, .int .i64 0, .int .i64 0, .int .i64 0, .int .i64 0, .int .i64 0, .slice none 0 0, .int .i64 0] ((zeroG csNode).set 0 (.num 1)) := ⟨1, 0, 0, 0, 0, 0, 0, 0, none, 0, 0, [], rfl, rfl, rfl, rfl, rfl, rfl, rfl, rfl, rfl, rfl, ⟨fun _ => rfl, fun a e => by cases e⟩, rfl, by decide, fun x hx => by cases hx⟩
def nt7 : Array Value := (setPart (headM 11 0) 11 #[.int .i64 1, .int .i64 0, .int .i64 0, .int .i64 0, .int .i64 0, .int .i64 0, .int .i64 0, .slice none 0 0, .int .i64 0]).setIfInBounds 2 (.int .i64 1)
theorem nt7_c (W : World) (K : KindsAt W) : Calls Tryz.prog 20 #[.agg nt7] W fun e w' => e = .returned (.bool true) ∧ Wider W w' :=
  pnot_c W (((headM_rep W 11 0 (by decide) (by decide)).set9 (node_rep W)).set0 1 rfl) K 11 0 (by decide) (by decide) rfl rfl (not_else (i := 0) (v := .one (.num 1)) (by decide) (by decide) rfl (fun e => by injection e with e; injection e with e; exact absurd e (by decide)))
theorem wfArm00 : ∀ x ∈ [[0, 0]], wfK ksArm x := by
  intro x hx
  obtain rfl := List.mem_singleton.1 hx
  refine ⟨rfl, fun i k n h1 h2 => ?_⟩
  match i, h1, h2 with
  | 0, h1, h2 => simp [ksArm] at h1 h2; subst h1 h2; rfl
  | 1, h1, h2 => simp [ksArm] at h1 h2; subst h1 h2; rfl
  | i + 2, h1, h2 => simp [ksArm] at h1
def nt9 (B : Nat) : Array Value := setPart (headM 5 0) 11 #[.int .i64 0, .int .i64 0, .int .i64 0, .int .i64 0, .int .i64 0, .int .i64 0, .int .i64 0, .slice (some ⟨B, 0, none⟩) 1 1, .int .i64 0]
theorem nt9_c (W : World) (t : TypeId) (K : KindsAt (W.alloc (.cells #[.int .u32 0, .int .i64 0] t))) : Calls Tryz.prog 20 #[.agg (nt9 W.heap.size)] (W.alloc (.cells #[.int .u32 0, .int .i64 0] t)) fun e w' => e = .returned (.bool true) ∧ Wider (W.alloc (.cells #[.int .u32 0, .int .i64 0] t)) w' := by
  have q : RepNode (W.alloc (.cells #[.int .u32 0, .int .i64 0] t)) #[.int .i64 0, .int .i64 0, .int .i64 0, .int .i64 0, .int .i64 0, .int .i64 0, .int .i64 0, .slice (some ⟨W.heap.size, 0, none⟩) 1 1, .int .i64 0] [.num 0, .num 0, .num 0, .num 0, .num 0, .num 0, .num 0, .num 0, .lst [[0, 0]]] := ⟨0, 0, 0, 0, 0, 0, 0, 0, _, 1, 1, [[0, 0]], rfl, rfl, rfl, rfl, rfl, rfl, rfl, rfl, rfl, rfl, rowK_new W ksArm [[0, 0]] t _ rfl (by decide), rfl, by decide, wfArm00⟩
  exact pnot_c _ ((headM_rep _ 5 0 (by decide) (by decide)).set9 q) K 5 0 (by decide) (by decide) rfl rfl (not_else (i := 9) (v := .obj [.num 0, .num 0, .num 0, .num 0, .num 0, .num 0, .num 0, .num 0, .lst [[0, 0]]]) (by decide) (by decide) rfl (fun e => by
    injection e with e
    have e2 := congrArg (fun l => l[8]?) e
    have e3 : some (ValN.lst [[0, 0]]) = some (.lst []) := e2
    injection e3 with e3; injection e3 with e3; cases e3))
/-- Rows of words that are all 0. -/
theorem wordsW {w : World} {A : Option Addr} (n : Nat) (hA : RowAt w A 1 (rowsK ksArg (List.replicate n [0]))) (hn : n < 1000000) (cap : Nat) : RowW w (.slice A n cap) (List.replicate n [0]) A n cap :=
  ⟨rfl, hA, by simp, hn, fun x hx => by
    obtain rfl := List.eq_of_mem_replicate hx
    refine ⟨rfl, fun i k n h1 h2 => ?_⟩
    match i, h1, h2 with
    | 0, h1, h2 => simp [ksArg] at h1 h2; subst h1 h2; rfl
    | i + 1, h1, h2 => simp [ksArg] at h1⟩
def wdM (k : Nat) (v : Value) : Array Value := (headM k 0).setIfInBounds 10 v
theorem wdM_rep {w : World} {A : Option Addr} (k n cap : Nat) (hk : k < 256) (h : RowW w (.slice A n cap) (List.replicate n [0]) A n cap) : ∃ d, RepD w (wdM k (.slice A n cap)) d ∧ d.kind = ((k : Nat) : Int) ∧ d.xid = ((0 : Nat) : Int) ∧ d.ps = zeroP.set 8 (.one (.lst (List.replicate n [0]))) :=
  ⟨_, (headM_rep w k 0 hk (by decide)).set8 h, rfl, rfl, rfl⟩
theorem may128 : MayM 37 (zeroP.set 8 (.one (.lst (List.replicate 128 [0])))) := by
  refine ⟨by decide, ?_⟩
  have z : okG (csM topD 37) zeroP := by rw [← zeroG_csM topD 37]; exact okG_zero _
  refine okG_set _ _ 8 _ _ z (csM_at topD 37 8 (by decide)) ?_
  rw [if_pos (by decide)]
  refine ⟨_, rfl, _, rfl, by rw [List.length_replicate]; decide, fun x hx => ?_⟩
  obtain rfl := List.eq_of_mem_replicate hx
  exact ⟨0, rfl, by decide, by decide⟩
theorem not129 : ¬ MayM 37 (zeroP.set 8 (.one (.lst (List.replicate 129 [0])))) := by
  refine not_may 8 (csM_at topD 37 8 (by decide)) (v := .one (.lst (List.replicate 129 [0]))) rfl ?_
  rw [if_pos (by decide)]
  rintro ⟨u, e1, l, e2, h, _⟩
  injection e1 with e1
  subst e1
  injection e2 with e2
  subst e2
  rw [List.length_replicate] at h
  exact absurd h (by decide)
theorem not5 : ¬ MayM 5 (zeroP.set 8 (.one (.lst (List.replicate 1 [0])))) :=
  not_else (i := 8) (v := .one (.lst [[0]])) (by decide) (by decide) rfl (fun e => by injection e with e; injection e with e; cases e)

theorem rf1 (W : World) (K : KindsAt W) : Calls Tryz.prog 19 #[.string ⟨#[]⟩, .int .i64 4] W fun e w' => e = .returned (.bool true) ∧ Wider W w' := by
  have q : decM [] = ((0, 0, zeroP), 4) := by unfold decM; rw [if_pos (by decide)]
  exact prefused_c W K ⟨#[]⟩ (by decide) (r := 4) q
theorem rf2 (W : World) (K : KindsAt W) : Calls Tryz.prog 19 #[.string ⟨#[1, 0, 0, 0]⟩, .int .i64 4] W fun e w' => e = .returned (.bool true) ∧ Wider W w' := by
  have q : decM [1, 0, 0, 0] = ((0, 0, zeroP), 4) := by unfold decM; rw [if_pos (by decide)]
  exact prefused_c W K ⟨#[1, 0, 0, 0]⟩ (by decide) (r := 4) q
theorem rf3 (W : World) (K : KindsAt W) : Calls Tryz.prog 19 #[.string ⟨#[0, 0, 0, 0, 0]⟩, .int .i64 15] W fun e w' => e = .returned (.bool true) ∧ Wider W w' := by
  have q : decM [0, 0, 0, 0, 0] = ((0, 0, zeroP), 15) := decM_kind 0 0 0 0 0 [] (by decide) (by decide)
  exact prefused_c W K ⟨#[0, 0, 0, 0, 0]⟩ (by decide) (r := 15) q
theorem rf4 (W : World) (K : KindsAt W) : Calls Tryz.prog 19 #[.string ⟨#[47, 0, 0, 0, 0, 1]⟩, .int .i64 15] W fun e w' => e = .returned (.bool true) ∧ Wider W w' := by
  have q : decM [47, 0, 0, 0, 0, 1] = ((0, 0, zeroP), 15) := decM_kind 47 0 0 0 0 [1] (by decide) (by decide)
  exact prefused_c W K ⟨#[47, 0, 0, 0, 0, 1]⟩ (by decide) (r := 15) q
theorem rf5 (W : World) (K : KindsAt W) : Calls Tryz.prog 19 #[.string ⟨#[12, 0, 0, 0, 0, 1]⟩, .int .i64 4] W fun e w' => e = .returned (.bool true) ∧ Wider W w' := by
  have d : decA [] 0 [1] = ([], 4) := by
    exact decA_short _ _ _ (by decide) (by decide)
  have q : decM [12, 0, 0, 0, 0, 1] = ((0, 0, zeroP), 4) := decM_err 12 0 0 0 0 [1] (by decide) (by decide) (by decide) d (by decide)
  exact prefused_c W K ⟨#[12, 0, 0, 0, 0, 1]⟩ (by decide) (r := 4) q
theorem rf6 (W : World) (K : KindsAt W) : Calls Tryz.prog 19 #[.string ⟨#[12, 0, 0, 0, 0, 1, 0, 0]⟩, .int .i64 3] W fun e w' => e = .returned (.bool true) ∧ Wider W w' := by
  have d : decA [] 0 [1, 0, 0] = ([], 3) := by
    rw [decA_some, if_pos (by decide)]
  have q : decM [12, 0, 0, 0, 0, 1, 0, 0] = ((0, 0, zeroP), 3) := decM_err 12 0 0 0 0 [1, 0, 0] (by decide) (by decide) (by decide) d (by decide)
  exact prefused_c W K ⟨#[12, 0, 0, 0, 0, 1, 0, 0]⟩ (by decide) (r := 3) q
theorem rf7 (W : World) (K : KindsAt W) : Calls Tryz.prog 19 #[.string ⟨#[12, 0, 0, 0, 0, 1, 0, 2, 0, 1]⟩, .int .i64 3] W fun e w' => e = .returned (.bool true) ∧ Wider W w' := by
  have d : decA [] 0 [1, 0, 2, 0, 1] = ([⟨1, mkB [0, 1]⟩], 0) := by
    rw [decA_some, if_neg (by decide), if_neg (by decide)]
    show decA [⟨1, mkB [0, 1]⟩] 1 [] = _
    rw [decA_nil]
  have g : readG (csM 65535 12) zeroP [⟨1, mkB [0, 1]⟩] = none := by kernel_rfl
  have q : decM [12, 0, 0, 0, 0, 1, 0, 2, 0, 1] = ((0, 0, zeroP), 3) := decM_no 12 0 0 0 0 [1, 0, 2, 0, 1] (by decide) (by decide) (by decide) d g
  exact prefused_c W K ⟨#[12, 0, 0, 0, 0, 1, 0, 2, 0, 1]⟩ (by decide) (r := 3) q
theorem rf8 (W : World) (K : KindsAt W) : Calls Tryz.prog 19 #[.string ⟨#[12, 0, 0, 0, 0, 1, 0, 4, 128, 0, 0, 0]⟩, .int .i64 3] W fun e w' => e = .returned (.bool true) ∧ Wider W w' := by
  have d : decA [] 0 [1, 0, 4, 128, 0, 0, 0] = ([⟨1, mkB [128, 0, 0, 0]⟩], 0) := by
    rw [decA_some, if_neg (by decide), if_neg (by decide)]
    show decA [⟨1, mkB [128, 0, 0, 0]⟩] 1 [] = _
    rw [decA_nil]
  have g : readG (csM 65535 12) zeroP [⟨1, mkB [128, 0, 0, 0]⟩] = none := by kernel_rfl
  have q : decM [12, 0, 0, 0, 0, 1, 0, 4, 128, 0, 0, 0] = ((0, 0, zeroP), 3) := decM_no 12 0 0 0 0 [1, 0, 4, 128, 0, 0, 0] (by decide) (by decide) (by decide) d g
  exact prefused_c W K ⟨#[12, 0, 0, 0, 0, 1, 0, 4, 128, 0, 0, 0]⟩ (by decide) (r := 3) q
theorem rf9 (W : World) (K : KindsAt W) : Calls Tryz.prog 19 #[.string ⟨#[12, 0, 0, 0, 0, 2, 0, 1, 1, 1, 0, 1, 1]⟩, .int .i64 3] W fun e w' => e = .returned (.bool true) ∧ Wider W w' := by
  have d : decA [] 0 [2, 0, 1, 1, 1, 0, 1, 1] = ([], 3) := by
    rw [decA_some, if_neg (by decide), if_neg (by decide)]
    show decA [⟨2, mkB [1]⟩] 2 [1, 0, 1, 1] = _
    rw [decA_some, if_pos (by decide)]
  have q : decM [12, 0, 0, 0, 0, 2, 0, 1, 1, 1, 0, 1, 1] = ((0, 0, zeroP), 3) := decM_err 12 0 0 0 0 [2, 0, 1, 1, 1, 0, 1, 1] (by decide) (by decide) (by decide) d (by decide)
  exact prefused_c W K ⟨#[12, 0, 0, 0, 0, 2, 0, 1, 1, 1, 0, 1, 1]⟩ (by decide) (r := 3) q
theorem rf10 (W : World) (K : KindsAt W) : Calls Tryz.prog 19 #[.string ⟨#[37, 0, 0, 0, 0, 9, 0, 3, 0, 1, 0]⟩, .int .i64 3] W fun e w' => e = .returned (.bool true) ∧ Wider W w' := by
  have d : decA [] 0 [9, 0, 3, 0, 1, 0] = ([⟨9, mkB [0, 1, 0]⟩], 0) := by
    rw [decA_some, if_neg (by decide), if_neg (by decide)]
    show decA [⟨9, mkB [0, 1, 0]⟩] 9 [] = _
    rw [decA_nil]
  have dT : decT [] 128 [0, 1, 0] = ([mkB [0]], 0) := by
    rw [decT_some, if_neg (by decide), if_neg (by decide)]
    show decT [mkB [0]] 128 [] = _
    rw [decT_nil]
  have g : readG (csM 65535 37) zeroP [⟨9, mkB [0, 1, 0]⟩] = none := by
    unfold readG
    rw [stepM_yes (by decide) (by decide)]
    have e : (partC 65535 ((⟨9, mkB [0, 1, 0]⟩ : AtN).t - 1)).dec (⟨9, mkB [0, 1, 0]⟩ : AtN).v = none := by
      show (if (decT [] 128 [0, 1, 0]).2 = 0 then (mapD cArg.dec (decT [] 128 [0, 1, 0]).1).map ValN.lst else none : Option ValN).map PartN.one = _
      rw [dT]; kernel_rfl
    rw [e]; rfl
  have q : decM [37, 0, 0, 0, 0, 9, 0, 3, 0, 1, 0] = ((0, 0, zeroP), 3) := decM_no 37 0 0 0 0 [9, 0, 3, 0, 1, 0] (by decide) (by decide) (by decide) d g
  exact prefused_c W K ⟨#[37, 0, 0, 0, 0, 9, 0, 3, 0, 1, 0]⟩ (by decide) (r := 3) q
theorem rf11 (W : World) (K : KindsAt W) : Calls Tryz.prog 19 #[.string ⟨#[37, 0, 0, 0, 0, 9, 0, 1, 0]⟩, .int .i64 3] W fun e w' => e = .returned (.bool true) ∧ Wider W w' := by
  have d : decA [] 0 [9, 0, 1, 0] = ([⟨9, mkB [0]⟩], 0) := by
    rw [decA_some, if_neg (by decide), if_neg (by decide)]
    show decA [⟨9, mkB [0]⟩] 9 [] = _
    rw [decA_nil]
  have dT : decT [] 128 [0] = ([], 4) := decT_short _ _ _ (by decide) (by decide)
  have g : readG (csM 65535 37) zeroP [⟨9, mkB [0]⟩] = none := by
    unfold readG
    rw [stepM_yes (by decide) (by decide)]
    have e : (partC 65535 ((⟨9, mkB [0]⟩ : AtN).t - 1)).dec (⟨9, mkB [0]⟩ : AtN).v = none := by
      show (if (decT [] 128 [0]).2 = 0 then (mapD cArg.dec (decT [] 128 [0]).1).map ValN.lst else none : Option ValN).map PartN.one = _
      rw [dT]; rfl
    rw [e]; rfl
  have q : decM [37, 0, 0, 0, 0, 9, 0, 1, 0] = ((0, 0, zeroP), 3) := decM_no 37 0 0 0 0 [9, 0, 1, 0] (by decide) (by decide) (by decide) d g
  exact prefused_c W K ⟨#[37, 0, 0, 0, 0, 9, 0, 1, 0]⟩ (by decide) (r := 3) q
theorem rf12 (W : World) (K : KindsAt W) : Calls Tryz.prog 19 #[.string ⟨#[13, 0, 0, 0, 0, 11, 0, 1, 1]⟩, .int .i64 3] W fun e w' => e = .returned (.bool true) ∧ Wider W w' := by
  have d : decA [] 0 [11, 0, 1, 1] = ([⟨11, mkB [1]⟩], 0) := by
    rw [decA_some, if_neg (by decide), if_neg (by decide)]
    show decA [⟨11, mkB [1]⟩] 11 [] = _
    rw [decA_nil]
  have di : decA [] 0 [1] = ([], 4) := decA_short _ _ _ (by decide) (by decide)
  have g : readG (csM 65535 13) zeroP [⟨11, mkB [1]⟩] = none := by
    unfold readG
    rw [stepM_yes (by decide) (by decide)]
    have de : decG csField [1] = (zeroG csField, 4) := by unfold decG; rw [di]; rfl
    have e : (partC 65535 ((⟨11, mkB [1]⟩ : AtN).t - 1)).dec (⟨11, mkB [1]⟩ : AtN).v = none := by
      show (partC 65535 (1 + 9)).dec (mkB [1]) = none
      rw [dec_obj 65535 1 (mkB [1]) (vs := zeroG csField) (r := 4) (by rw [mkB_data]; exact de)]; rfl
    rw [e]; rfl
  have q : decM [13, 0, 0, 0, 0, 11, 0, 1, 1] = ((0, 0, zeroP), 3) := decM_no 13 0 0 0 0 [11, 0, 1, 1] (by decide) (by decide) (by decide) d g
  exact prefused_c W K ⟨#[13, 0, 0, 0, 0, 11, 0, 1, 1]⟩ (by decide) (r := 3) q
theorem rf13 (W : World) (K : KindsAt W) : Calls Tryz.prog 19 #[.string ⟨#[1, 0, 0, 0, 0, 18, 0, 1, 1]⟩, .int .i64 3] W fun e w' => e = .returned (.bool true) ∧ Wider W w' := by
  have d : decA [] 0 [18, 0, 1, 1] = ([⟨18, mkB [1]⟩], 0) := by
    rw [decA_some, if_neg (by decide), if_neg (by decide)]
    show decA [⟨18, mkB [1]⟩] 18 [] = _
    rw [decA_nil]
  have g : readG (csM 65535 1) zeroP [⟨18, mkB [1]⟩] = none := by kernel_rfl
  have q : decM [1, 0, 0, 0, 0, 18, 0, 1, 1] = ((0, 0, zeroP), 3) := decM_no 1 0 0 0 0 [18, 0, 1, 1] (by decide) (by decide) (by decide) d g
  exact prefused_c W K ⟨#[1, 0, 0, 0, 0, 18, 0, 1, 1]⟩ (by decide) (r := 3) q
end Go.Proofs.YtilpimilbjcifaaGreatDoor

/- Long messages, rows of words: what the law ProtoNames asks of them. -/
namespace Go.Proofs.YtilpimilbjcifaaGreatDoor
set_option linter.unusedVariables false
set_option maxRecDepth 20000
open Go.ChangeShapes Go.WideShapes Go.ChangeAt Go.RowKit Go.Joins
open Go.ChangeMaps (open_string shut_string)

theorem zeros_data (n : Nat) {T : ByteArray} (hT : strOfNums ((List.range n).map fun _ => (0 : Int)) = T) : T.data.toList = List.replicate n 0 := by
  rw [← hT, strOfNums_data, List.map_map]
  apply List.ext_getElem
  · simp
  · intro i h1 h2
    rw [List.getElem_map]
    simp only [Function.comp, List.getElem_replicate]; rfl
theorem zeros_size (n : Nat) {T : ByteArray} (hT : strOfNums ((List.range n).map fun _ => (0 : Int)) = T) : T.size = n := by rw [size_data, zeros_data n hT]; simp
theorem many_9 (n : Nat) (v : Int) (hv : v = (n : Int)) (hn : n < 1000000) {T : ByteArray} (hT : strOfNums ((List.range n).map fun _ => (0 : Int)) = T) (w : World) :
    Calls Tryz.prog 15 #[.int .i64 v] w fun e w' => e = .returned (.string T) ∧ Wider w w' := by
  subst hv
  have hmk := makeN n hn w
  have hcv := (Bts.made w n).conv n hT
  have i0 : (0 : Int) ≤ (n : Int) := by omega
  clear hT
  go_enter Tryz.func15, Tryz.ntmps15
  go_wp2
  go_ret
  exact ⟨rfl, (Wider.refl w).alloc _⟩
def ltM (Z : ByteArray) : Array Value := (headM 3 0).setIfInBounds 9 (.string Z)
def ltP (Z : ByteArray) : List PartN := zeroP.set 7 (.one (.txt Z))
theorem ltM_size (Z : ByteArray) : (ltM Z).size = 52 := rfl
theorem ltM_9 (Z : ByteArray) : (ltM Z)[9]? = some (.string Z) := rfl
theorem ltM_set (Z Y : ByteArray) : (ltM Z).setIfInBounds 9 (.string Y) = ltM Y := rfl
theorem lt_rep (w : World) (Z : ByteArray) (hZ : Z.size ≤ maxLen) : ∃ d, RepD w (ltM Z) d ∧ d.kind = ((3 : Nat) : Int) ∧ d.xid = ((0 : Nat) : Int) ∧ d.ps = ltP Z :=
  ⟨_, (headM_rep w 3 0 (by decide) (by decide)).set7 Z hZ, rfl, rfl, rfl⟩
theorem ltM_one (w : World) (Z : ByteArray) (hZ : Z.size ≤ maxLen) : (ltM Z).all (·.oneCell') = true := (lt_rep w Z hZ).choose_spec.1.one
theorem lt_may (Z : ByteArray) (hZ : Z.size ≤ maxLen) : MayM 3 (ltP Z) := by
  refine ⟨by decide, ?_⟩
  have z : okG (csM topD 3) zeroP := by rw [← zeroG_csM topD 3]; exact okG_zero _
  refine okG_set _ _ 7 _ _ z (csM_at topD 3 7 (by decide)) ?_
  rw [if_pos (by decide)]
  unfold maxLen at hZ
  exact ⟨_, rfl, Z, rfl, by show Z.size ≤ 9223372036854775807; omega⟩
theorem lt_attrs (Z : ByteArray) (h0 : Z.size ≠ 0) : attrsG 1 (csM topD 3) (ltP Z) = [⟨8, Z⟩] := by
  unfold ltP
  have e := attrsG_set (csM topD 3) zeroP 1 7 (partC topD 7) (.one (.txt Z)) (csM_at topD 3 7 (by decide)) rfl (fun j _ => by rw [zeroG_csM]) h0
  rw [e]
  have z : attrsG 1 (csM topD 3) zeroP = [] := by rw [← zeroG_csM topD 3]; exact attrsG_zero _ 1
  rw [z]; rfl
theorem lt_bytes (Z : ByteArray) (h0 : Z.size ≠ 0) : (bytsA (attrsG 1 (csM topD 3) (ltP Z))).length = 3 + Z.size := by
  rw [lt_attrs Z h0, bytsA_cons, bytsA_nil, List.append_nil, bytA_length]
theorem lt_len (Z : ByteArray) (h0 : Z.size ≠ 0) : (bodyM 3 0 (ltP Z)).length = 8 + Z.size := by
  unfold bodyM
  rw [List.length_append, headB_length, lt_bytes Z h0]; omega
theorem lt_enc (W : World) (K : KindsAt W) (Z : ByteArray) (h0 : Z.size ≠ 0) (hZ : Z.size < 100000) {S : ByteArray} {r : Nat} (h : (Z.size ≤ 16376 ∧ S = mkB (bodyM 3 0 (ltP Z)) ∧ r = 0) ∨ (16376 < Z.size ∧ S = ⟨#[]⟩ ∧ r = 5)) :
    Calls Tryz.prog 16 #[.agg (ltM Z)] W fun e w' => e = .returned (.tuple #[.string S, .int .i64 (r : Int)]) ∧ Wider W w' := by
  have zm : Z.size ≤ maxLen := by unfold maxLen; omega
  obtain ⟨d, R, h1, h2, h3⟩ := lt_rep W Z zm
  refine pencode_c W R K 3 0 (by decide) (by decide) h1 h2 (fun _ => by rw [h3, lt_bytes Z h0]; omega) ?_
  rw [h3]
  rcases h with ⟨a, b, c⟩ | ⟨a, b, c⟩
  · exact .inl ⟨lt_may Z zm, by rw [lt_len Z h0]; omega, b, c⟩
  · exact .inr (.inl ⟨lt_may Z zm, by rw [lt_len Z h0]; omega, b, c⟩)
theorem lt_maycall (W : World) (K : KindsAt W) (Z : ByteArray) (hZ : Z.size < 100000) : Calls Tryz.prog 18 #[.agg (ltM Z)] W fun e w' => e = .returned (.bool true) ∧ Wider W w' := by
  have zm : Z.size ≤ maxLen := by unfold maxLen; omega
  obtain ⟨d, R, h1, h2, h3⟩ := lt_rep W Z zm
  exact pmay_c W R K 3 (by decide) h1 (b := true) ⟨fun _ => by rw [h3]; exact lt_may Z zm, fun _ => rfl⟩
theorem lt_dec (W : World) (K : KindsAt W) (Z : ByteArray) (h0 : Z.size ≠ 0) (hZ : Z.size ≤ 16376) : Calls Tryz.prog 17 #[.string (mkB (bodyM 3 0 (ltP Z)))] W fun e w' => DecR W w' e 3 0 (ltP Z) 0 := by
  have l := lt_len Z h0
  refine (pdecode_p _ W (by rw [mkB_size]; omega) K).mono fun e w' h => ?_
  rw [mkB_data, decM_enc (lt_may Z (by unfold maxLen; omega)) (by decide) (by omega)] at h
  exact h
theorem lt_data {d : MsgD} {Z : ByteArray} (h : d.ps = ltP Z) : d.data = Z := by
  have q := congrArg (fun l => l[7]?) h
  have q2 : some (PartN.one (.txt d.data)) = some (.one (.txt Z)) := q
  injection q2 with q2; injection q2 with q2; injection q2
theorem lt_ref (W : World) (K : KindsAt W) (S : ByteArray) (h : S.size = 16385) : Calls Tryz.prog 19 #[.string S, .int .i64 5] W fun e w' => e = .returned (.bool true) ∧ Wider W w' :=
  prefused_c W K S (by omega) (r := 5) (by
    unfold decM
    rw [if_neg (by rw [← size_data]; omega), if_pos (by rw [← size_data]; omega)])
theorem hs_none (W : World) (K : KindsAt W) (k : Nat) (hk : k < 256) (h : hasL k = []) : Calls Tryz.prog 13 #[.int .u8 (k : Int)] W fun e w' => ∃ A cp, e = .returned (.slice A 0 cp) ∧ Wider W w' :=
  (thas_c W k hk K).mono fun e w' ⟨v, he, g, ho⟩ => by
    rw [h] at ho
    obtain ⟨A, cp, rfl, _⟩ := own8_row ho
    exact ⟨A, cp, he, g⟩
/-- A row of words that are all 0, laid by the call. -/
def zerosW (n : Nat) : Array Value := madeCells (Value.int .u64 0).cells n
theorem zerosW_at (n j : Nat) (h : j < n) : (zerosW n)[j]? = some (.int .u64 0) := by
  unfold zerosW
  have e : (Value.int IntKind.u64 0).cells = #[Value.int .u64 0] := rfl
  rw [e]
  have m : j % 1 = 0 := by omega
  simp [madeCells, h, m]
theorem infoW : (Tryz.prog.info? 28).map (fun i => (i.zero, i.size, i.bytes)) = some (some (.int .u64 0), 1, 8) := by kernel_rfl
theorem makeW (w : World) : (Instr.makeSlice 29 (.int .i64 129) (.int .i64 129)).run Tryz.prog w = .ok (.slice (some ⟨w.heap.size, 0, none⟩) 129 129) (w.alloc (.cells (zerosW 129) 28)) := by
  have h := infoW
  cases e : Tryz.prog.info? 28 with
  | none => rw [e] at h; cases h
  | some i =>
    rw [e] at h
    simp only [Option.map_some, Option.some.injEq, Prod.mk.injEq] at h
    have q := run_make (P := Tryz.prog) (w := w) 29 28 i (.int .u64 0) Tryz.underlying29 e h.1 .i64 .i64 129 129 (by omega) (by omega) (by rw [h.2.2]; omega) (by omega)
    rw [h.2.1] at q
    exact q
theorem zerosW_row {w : World} {B : Nat} {t : TypeId} (hB : w.heap[B]? = some (.cells (zerosW 129) t (0, 0))) (n : Nat) (hn : n ≤ 129) : RowAt w (some ⟨B, 0, none⟩) 1 (rowsK ksArg (List.replicate n [0])) :=
  ⟨fun e => (by cases e), fun a e j x hx => by
    obtain rfl : (⟨B, 0, none⟩ : Addr) = a := by injection e
    unfold rowsK at hx
    rw [List.map_replicate] at hx
    obtain ⟨h1, h2⟩ := List.getElem?_eq_some_iff.1 hx
    rw [List.getElem_replicate] at h2
    rw [List.length_replicate] at h1
    subst h2
    refine ⟨rfl, fun i v hv => ?_⟩
    match i, hv with
    | 0, hv =>
      injection hv with hv
      subst hv
      rw [Nat.mul_one, Addr.add_mid, Addr.add_mid, Nat.zero_add, Nat.add_zero]
      exact blk_cell hB j (zerosW_at 129 j (by omega))
    | i + 1, hv => simp [ksArg] at hv⟩
theorem wd_may (W : World) (K : KindsAt W) {B : Nat} {t : TypeId} (hB : W.heap[B]? = some (.cells (zerosW 129) t (0, 0))) (cp : Nat) : Calls Tryz.prog 18 #[.agg (wdM 37 (.slice (some ⟨B, 0, none⟩) 128 cp))] W fun e w' => e = .returned (.bool true) ∧ Wider W w' := by
  obtain ⟨d, R, h1, h2, h3⟩ := wdM_rep 37 128 cp (by decide) (wordsW 128 (zerosW_row hB 128 (by decide)) (by decide) cp)
  exact pmay_c W R K 37 (by decide) h1 (b := true) ⟨fun _ => by rw [h3]; exact may128, fun _ => rfl⟩
theorem wd_not (W : World) (K : KindsAt W) {B : Nat} {t : TypeId} (hB : W.heap[B]? = some (.cells (zerosW 129) t (0, 0))) (k n cp : Nat) (hk : k < 256) (hn : n ≤ 129) (hm : ¬ MayM k (zeroP.set 8 (.one (.lst (List.replicate n [0]))))) : Calls Tryz.prog 20 #[.agg (wdM k (.slice (some ⟨B, 0, none⟩) n cp))] W fun e w' => e = .returned (.bool true) ∧ Wider W w' := by
  obtain ⟨d, R, h1, h2, h3⟩ := wdM_rep k n cp hk (wordsW n (zerosW_row hB n hn) (by omega) cp)
  exact pnot_c W R K k 0 hk (by decide) h1 h2 (by rw [h3]; exact hm)
end Go.Proofs.YtilpimilbjcifaaGreatDoor
