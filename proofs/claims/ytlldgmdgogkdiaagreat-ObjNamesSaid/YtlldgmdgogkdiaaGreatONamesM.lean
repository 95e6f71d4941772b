/- What the law ObjNames asks of the codes: texts that are no object, objects at their ends, and above them. -/
import Derived.Test.YtlldgmdgogkdiaaGreatOMany
import Derived.SizedLaws
namespace Go.Proofs.YtlldgmdgogkdiaaGreat
set_option linter.unusedVariables false
set_option maxRecDepth 20000
open Go.ChangeShapes Go.WideShapes Go.ChangeAt Go.RowKit Go.Joins
open Go.ChangeMaps (open_string shut_string)

theorem all8 {p : Nat → Prop} (h0 : p 0) (h1 : p 1) (h2 : p 2) (h3 : p 3) (h4 : p 4) (h5 : p 5) (h6 : p 6) (h7 : p 7) (k : Nat) (hk : k < 8) : p k := by
  match k, hk with
  | 0, _ => exact h0
  | 1, _ => exact h1
  | 2, _ => exact h2
  | 3, _ => exact h3
  | 4, _ => exact h4
  | 5, _ => exact h5
  | 6, _ => exact h6
  | 7, _ => exact h7
theorem bad1 (k : Nat) (hk : k < 8) : decG (csKind k) [0] = (zeroG (csKind k), 4) := decG_err (decA_short [] 0 [0] (by decide) (by decide)) (by decide)
theorem bad2 (k : Nat) (hk : k < 8) : decG (csKind k) [99, 0, 1, 97] = (zeroG (csKind k), 3) := by
  have d : decA [] 0 [99, 0, 1, 97] = ([⟨99, mkB [97]⟩], 0) := by
    rw [decA_some, if_neg (by decide), if_neg (by decide)]
    show decA [⟨99, mkB [97]⟩] 99 [] = _
    rw [decA_nil]
  exact decG_none d (all8 (p := fun k => readG (csKind k) (zeroG (csKind k)) [⟨99, mkB [97]⟩] = none) rfl rfl rfl rfl rfl rfl rfl rfl k hk)
theorem bad3 (k : Nat) (hk : k < 8) : decG (csKind k) [1, 0, 5, 1, 0, 0, 0, 0] = (zeroG (csKind k), 3) := by
  have d : decA [] 0 [1, 0, 5, 1, 0, 0, 0, 0] = ([⟨1, mkB [1, 0, 0, 0, 0]⟩], 0) := by
    rw [decA_some, if_neg (by decide), if_neg (by decide)]
    show decA [⟨1, mkB [1, 0, 0, 0, 0]⟩] 1 [] = _
    rw [decA_nil]
  exact decG_none d (all8 (p := fun k => readG (csKind k) (zeroG (csKind k)) [⟨1, mkB [1, 0, 0, 0, 0]⟩] = none) rfl rfl rfl rfl rfl rfl rfl rfl k hk)
theorem bad4 (k : Nat) (hk : k < 8) : decG (csKind k) [1, 0, 1, 1, 12, 0, 1, 1] = (zeroG (csKind k), 3) := by
  have d : decA [] 0 [1, 0, 1, 1, 12, 0, 1, 1] = ([⟨1, mkB [1]⟩, ⟨12, mkB [1]⟩], 0) := by
    rw [decA_some, if_neg (by decide), if_neg (by decide)]
    show decA [⟨1, mkB [1]⟩] 1 [12, 0, 1, 1] = _
    rw [decA_some, if_neg (by decide), if_neg (by decide)]
    show decA [⟨1, mkB [1]⟩, ⟨12, mkB [1]⟩] 12 [] = _
    rw [decA_nil]
  exact decG_none d (all8 (p := fun k => readG (csKind k) (zeroG (csKind k)) [⟨1, mkB [1]⟩, ⟨12, mkB [1]⟩] = none) rfl rfl rfl rfl rfl rfl rfl rfl k hk)
def badL : List ByteArray := [⟨#[0]⟩, ⟨#[99, 0, 1, 97]⟩, ⟨#[1, 0, 5, 1, 0, 0, 0, 0]⟩, ⟨#[1, 0, 1, 1, 12, 0, 1, 1]⟩]
theorem badL_dec (s : ByteArray) (h : s ∈ badL) : s.size < 1000000 ∧ ∀ k, k < 8 → ∃ c, c ≠ 0 ∧ decG (csKind k) s.data.toList = (zeroG (csKind k), c) := by
  simp only [badL, List.mem_cons, List.not_mem_nil, or_false] at h
  rcases h with rfl | rfl | rfl | rfl
  · exact ⟨by decide, fun k hk => ⟨4, by decide, bad1 k hk⟩⟩
  · exact ⟨by decide, fun k hk => ⟨3, by decide, bad2 k hk⟩⟩
  · exact ⟨by decide, fun k hk => ⟨3, by decide, bad3 k hk⟩⟩
  · exact ⟨by decide, fun k hk => ⟨3, by decide, bad4 k hk⟩⟩
theorem dEnd1 : decG csEntry [11, 0, 1, 2] = (zeroG csEntry, 3) := by
  have d : decA [] 0 [11, 0, 1, 2] = ([⟨11, mkB [2]⟩], 0) := by
    rw [decA_some, if_neg (by decide), if_neg (by decide)]
    show decA [⟨11, mkB [2]⟩] 11 [] = _
    rw [decA_nil]
  unfold decG
  rw [d]
  rfl
theorem dEnd2 : decG csEntry [11, 0, 1, 1] = ([ValN.num 0, ValN.txt ⟨#[]⟩, ValN.txt ⟨#[]⟩, ValN.num 0, ValN.num 0, ValN.num 0, ValN.lst [], ValN.num 0, ValN.num 0, ValN.num 0, ValN.num 1], 0) := by
  have d : decA [] 0 [11, 0, 1, 1] = ([⟨11, mkB [1]⟩], 0) := by
    rw [decA_some, if_neg (by decide), if_neg (by decide)]
    show decA [⟨11, mkB [1]⟩] 11 [] = _
    rw [decA_nil]
  unfold decG
  rw [d]
  rfl
theorem dEnd3 : decG csField [2, 0, 2, 1, 0] = (zeroG csField, 3) := by
  have d : decA [] 0 [2, 0, 2, 1, 0] = ([⟨2, mkB [1, 0]⟩], 0) := by
    rw [decA_some, if_neg (by decide), if_neg (by decide)]
    show decA [⟨2, mkB [1, 0]⟩] 2 [] = _
    rw [decA_nil]
  unfold decG
  rw [d]
  rfl
theorem dEnd4 : decG csNode [9, 0, 2, 0, 0] = ([ValN.num 0, ValN.num 0, ValN.num 0, ValN.num 0, ValN.num 0, ValN.num 0, ValN.num 0, ValN.num 0, ValN.lst [[0, 0]]], 0) := by
  have d : decA [] 0 [9, 0, 2, 0, 0] = ([⟨9, mkB [0, 0]⟩], 0) := by
    rw [decA_some, if_neg (by decide), if_neg (by decide)]
    show decA [⟨9, mkB [0, 0]⟩] 9 [] = _
    rw [decA_nil]
  have e : lArms.dec (mkB [0, 0]) = some (ValN.lst [[0, 0]]) := by
    refine lstV_yes (hm := by decide) (hi := by decide) (m := [⟨#[]⟩]) ?_ ?_
    · show decT [] 32 [0, 0] = _
      rw [decT_some, if_neg (by decide), if_neg (by decide)]
      show decT [mkB []] 32 [] = _
      rw [decT_nil]; rfl
    · have q : cArm.dec ⟨#[]⟩ = some [0, 0] := by
        show (if (decG csArm []).2 = 0 then some (decG csArm []).1 else none) = _
        have q : decG csArm [] = ([0, 0], 0) := by
          unfold decG
          rw [decA_nil]; rfl
        rw [q]; rfl
      simp only [mapD, q]
  refine decG_some d ?_
  show readG csNode (zeroG csNode) ([] ++ [⟨9, mkB [0, 0]⟩]) = _
  rw [readG_append]
  show readG csNode (zeroG csNode) [⟨9, mkB [0, 0]⟩] = _
  unfold readG
  rw [step_at (show codeAt csNode 9 = some lArms from rfl) e]
  rfl
theorem dEnd5 : decG csTable [3, 0, 5, 0, 0, 0, 1, 7] = ([ValN.num 0, ValN.num 0, ValN.lst [[0], [7]], ValN.num 0, ValN.num 0], 0) := by
  have d : decA [] 0 [3, 0, 5, 0, 0, 0, 1, 7] = ([⟨3, mkB [0, 0, 0, 1, 7]⟩], 0) := by
    rw [decA_some, if_neg (by decide), if_neg (by decide)]
    show decA [⟨3, mkB [0, 0, 0, 1, 7]⟩] 3 [] = _
    rw [decA_nil]
  have e : lKeys.dec (mkB [0, 0, 0, 1, 7]) = some (ValN.lst [[0], [7]]) := by
    refine lstV_yes (hm := by decide) (hi := by decide) (m := [⟨#[]⟩, mkB [7]]) ?_ ?_
    · show decT [] 4 [0, 0, 0, 1, 7] = _
      rw [decT_some, if_neg (by decide), if_neg (by decide)]
      show decT [mkB []] 4 [0, 1, 7] = _
      rw [decT_some, if_neg (by decide), if_neg (by decide)]
      show decT [mkB [], mkB [7]] 4 [] = _
      rw [decT_nil]; rfl
    · have q : cKey.dec ⟨#[]⟩ = some [0] := rfl
      have q2 : cKey.dec (mkB [7]) = some [7] := rfl
      simp only [mapD, q, q2]
  refine decG_some d ?_
  unfold readG
  rw [step_at (show codeAt csTable 3 = some lKeys from rfl) e]
  rfl
theorem full_ok (k : Nat) (hk : k < 8) : okG (csKind k) (manyV 32 4 4 32 16 k) :=
  all8 (p := fun k => okG (csKind k) (manyV 32 4 4 32 16 k))
    ⟨⟨_, rfl, by decide, by decide⟩, ⟨_, rfl, by decide, by decide⟩, ⟨_, rfl, by decide, by decide⟩, ⟨_, rfl, by decide, by decide⟩, ⟨_, rfl, by decide, by decide⟩, ⟨_, rfl, by decide, by decide⟩, ⟨_, rfl, by decide, by decide⟩, ⟨_, rfl, by decide, by decide⟩, ⟨_, rfl, by rw [List.length_replicate]; decide, fun x hx => by rw [List.eq_of_mem_replicate hx]; exact ⟨⟨by decide, by decide⟩, ⟨by decide, by decide⟩, trivial⟩⟩, trivial⟩
    ⟨⟨_, rfl, by decide, by decide⟩, ⟨_, rfl, by decide, by decide⟩, ⟨_, rfl, by decide, by decide⟩, ⟨_, rfl, by decide, by decide⟩, ⟨_, rfl, by decide, by decide⟩, trivial⟩
    ⟨⟨_, rfl, by decide, by decide⟩, ⟨_, rfl, by decide, by decide⟩, ⟨_, rfl, by rw [List.length_replicate]; decide, fun x hx => by rw [List.eq_of_mem_replicate hx]; exact ⟨_, rfl, by decide, by decide⟩⟩, ⟨_, rfl, by decide, by decide⟩, ⟨_, rfl, by decide, by decide⟩, trivial⟩
    ⟨⟨_, rfl, by decide, by decide⟩, ⟨_, rfl, by decide⟩, ⟨_, rfl, by decide⟩, ⟨_, rfl, by decide, by decide⟩, ⟨_, rfl, by decide, by decide⟩, ⟨_, rfl, by decide, by decide⟩, ⟨_, rfl, by rw [List.length_replicate]; decide, fun x hx => by rw [List.eq_of_mem_replicate hx]; exact ⟨_, rfl, by decide, by decide⟩⟩, ⟨_, rfl, by decide, by decide⟩, ⟨_, rfl, by decide, by decide⟩, ⟨_, rfl, by decide, by decide⟩, ⟨_, rfl, by decide, by decide⟩, trivial⟩
    ⟨⟨_, rfl, by decide, by decide⟩, ⟨_, rfl, by rw [List.length_replicate]; decide, fun x hx => by rw [List.eq_of_mem_replicate hx]; exact ⟨⟨by decide, by decide⟩, ⟨by decide, by decide⟩, ⟨by decide, by decide⟩, ⟨by decide, by decide⟩, ⟨by decide, by decide⟩, ⟨by decide, by decide⟩, ⟨by decide, by decide⟩, trivial⟩⟩, trivial⟩
    ⟨⟨_, rfl, by decide, by decide⟩, ⟨_, rfl, by decide, by decide⟩, ⟨_, rfl, by decide, by decide⟩, ⟨_, rfl, by rw [List.length_replicate]; decide, fun x hx => by rw [List.eq_of_mem_replicate hx]; exact ⟨⟨by decide, by decide⟩, ⟨by decide, by decide⟩, trivial⟩⟩, trivial⟩
    ⟨⟨_, rfl, by decide, by decide⟩, ⟨_, rfl, by decide, by decide⟩, ⟨_, rfl, by decide, by decide⟩, trivial⟩
    ⟨⟨_, rfl, by decide, by decide⟩, ⟨_, rfl, by decide, by decide⟩, trivial⟩ k hk
def overV : Nat → List ValN
  | 1 => [ValN.num 2147483647, ValN.num 255, ValN.num 2147483647, ValN.num 2147483647, ValN.num 2147483648]
  | 6 => [ValN.num 2147483647, ValN.num (-1), ValN.num 9223372036854775807]
  | 7 => [ValN.num 2147483647, ValN.num (-1)]
  | k => manyV 33 5 5 33 17 k
theorem over_no (k : Nat) (hk : k < 8) : ¬ okG (csKind k) (overV k) :=
  all8 (p := fun k => ¬ okG (csKind k) (overV k))
    (fun h => by obtain ⟨l, e, hl, _⟩ := okG_at csNode _ 8 lArms _ h rfl rfl; injection e with e; rw [← e, List.length_replicate] at hl; exact absurd hl (by decide))
    (fun h => by obtain ⟨n, e, h1, h2⟩ := okG_at csField _ 4 nI _ h rfl rfl; injection e with e; subst e; first | exact absurd h1 (by decide) | exact absurd h2 (by decide))
    (fun h => by obtain ⟨l, e, hl, _⟩ := okG_at csTable _ 2 lKeys _ h rfl rfl; injection e with e; rw [← e, List.length_replicate] at hl; exact absurd hl (by decide))
    (fun h => by obtain ⟨l, e, hl, _⟩ := okG_at csEntry _ 6 lArgs _ h rfl rfl; injection e with e; rw [← e, List.length_replicate] at hl; exact absurd hl (by decide))
    (fun h => by obtain ⟨l, e, hl, _⟩ := okG_at csBlock _ 1 lCode _ h rfl rfl; injection e with e; rw [← e, List.length_replicate] at hl; exact absurd hl (by decide))
    (fun h => by obtain ⟨l, e, hl, _⟩ := okG_at csGroup _ 3 lBuckets _ h rfl rfl; injection e with e; rw [← e, List.length_replicate] at hl; exact absurd hl (by decide))
    (fun h => by obtain ⟨n, e, h1, h2⟩ := okG_at csMeter _ 1 nL _ h rfl rfl; injection e with e; subst e; first | exact absurd h1 (by decide) | exact absurd h2 (by decide))
    (fun h => by obtain ⟨n, e, h1, h2⟩ := okG_at csRegs _ 1 nI _ h rfl rfl; injection e with e; subst e; first | exact absurd h1 (by decide) | exact absurd h2 (by decide)) k hk
theorem entNo0 (K : ByteArray) (hK : 32 < K.size) : ¬ okG csEntry [ValN.num 0, ValN.txt K, ValN.txt ⟨#[]⟩, ValN.num 0, ValN.num 0, ValN.num 0, ValN.lst [], ValN.num 0, ValN.num 0, ValN.num 0, ValN.num 0] := fun h => by
  obtain ⟨s, e, hs⟩ := okG_at csEntry _ 1 tK _ h rfl rfl
  injection e with e
  subst e
  omega
theorem entNo1 (K : ByteArray) (hK : 32 < K.size) : ¬ okG csEntry [ValN.num 0, ValN.txt ⟨#[]⟩, ValN.txt K, ValN.num 0, ValN.num 0, ValN.num 0, ValN.lst [], ValN.num 0, ValN.num 0, ValN.num 0, ValN.num 0] := fun h => by
  obtain ⟨s, e, hs⟩ := okG_at csEntry _ 2 tK _ h rfl rfl
  injection e with e
  subst e
  omega
theorem entNo2 : ¬ okG csEntry [ValN.num 0, ValN.txt ⟨#[]⟩, ValN.txt ⟨#[]⟩, ValN.num 0, ValN.num 0, ValN.num 0, ValN.lst [], ValN.num (-1), ValN.num 0, ValN.num 0, ValN.num 0] := fun h => by
  obtain ⟨n, e, h1, h2⟩ := okG_at csEntry _ 7 nL _ h rfl rfl
  injection e with e
  subst e
  first | exact absurd h1 (by decide) | exact absurd h2 (by decide)
theorem entNo3 : ¬ okG csEntry [ValN.num 0, ValN.txt ⟨#[]⟩, ValN.txt ⟨#[]⟩, ValN.num 0, ValN.num 0, ValN.num 0, ValN.lst [], ValN.num 0, ValN.num (-1), ValN.num 0, ValN.num 0] := fun h => by
  obtain ⟨n, e, h1, h2⟩ := okG_at csEntry _ 8 nL _ h rfl rfl
  injection e with e
  subst e
  first | exact absurd h1 (by decide) | exact absurd h2 (by decide)
theorem entNo4 : ¬ okG csEntry [ValN.num 0, ValN.txt ⟨#[]⟩, ValN.txt ⟨#[]⟩, ValN.num 0, ValN.num (-1), ValN.num 0, ValN.lst [], ValN.num 0, ValN.num 0, ValN.num 0, ValN.num 0] := fun h => by
  obtain ⟨n, e, h1, h2⟩ := okG_at csEntry _ 4 nI _ h rfl rfl
  injection e with e
  subst e
  first | exact absurd h1 (by decide) | exact absurd h2 (by decide)
theorem entNo5 : ¬ okG csEntry [ValN.num 2147483648, ValN.txt ⟨#[]⟩, ValN.txt ⟨#[]⟩, ValN.num 0, ValN.num 0, ValN.num 0, ValN.lst [], ValN.num 0, ValN.num 0, ValN.num 0, ValN.num 0] := fun h => by
  obtain ⟨n, e, h1, h2⟩ := okG_at csEntry _ 0 nI _ h rfl rfl
  injection e with e
  subst e
  first | exact absurd h1 (by decide) | exact absurd h2 (by decide)
end Go.Proofs.YtlldgmdgogkdiaaGreat
