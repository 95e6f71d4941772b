/- Texts that belong together, one behind the other: PMath PHas PInt PNum PRHas PTypes PTHas PHead. -/
import Derived.Test.YtilpimilbjcifaaGreatDoorMathG
import Derived.Test.YtilpimilbjcifaaGreatDoorOSameH
import Derived.Test.YtilpimilbjcifaaGreatDoorQuiet
import Derived.WalkKit
import Derived.Lib.Hide
import Derived.Deep.DeepCutAuto
import Derived.WalkLawsBesides
import Derived.WalkSpells
import Derived.BigQuiet
import Derived.Test.YtilpimilbjcifaaGreatDoorTCodeH
import Derived.Test.YtilpimilbjcifaaGreatDoorTRefG
import Derived.Test.YtilpimilbjcifaaGreatDoorOTopB
import Derived.Test.YtilpimilbjcifaaGreatDoorBlk
import Derived.Test.YtilpimilbjcifaaGreatDoorSMake
import Derived.Test.YtilpimilbjcifaaGreatDoorRowsG

/- Messages as attributes: the parts of each kind, their codes, a body and its message. No program is in sight. -/
namespace Go.Proofs.YtilpimilbjcifaaGreatDoor
set_option linter.unusedVariables false

/-- A part of a message. -/
inductive PartN
  | one (v : ValN)
  | obj (vs : List ValN)
def oneP (c : Cod ValN) : Cod PartN where
  enc p := match p with
    | .one v => c.enc v
    | _ => ⟨#[]⟩
  dec s := (c.dec s).map .one
  ok p := ∃ v, p = .one v ∧ c.ok v
  zero := .one c.zero
  cap := c.cap
  there p h := by obtain ⟨v, rfl, h⟩ := h; simp only [c.there v h, Option.map_some]
  back s p h := by
    cases e : c.dec s with
    | none => rw [e] at h; cases h
    | some v =>
      rw [e] at h
      simp only [Option.map_some, Option.some.injEq] at h
      subst h
      obtain ⟨h1, h2⟩ := c.back s v e
      exact ⟨⟨v, rfl, h1⟩, h2⟩
  none_ := by rw [c.none_]; rfl
  small p h := by obtain ⟨v, rfl, h⟩ := h; exact c.small v h
def objP (cs : List (Cod ValN)) (hc : ∀ c ∈ cs, c.cap ≤ 65535) (hn : cs.length < 255) (hs : ∀ vs, okG cs vs → (encG cs vs).size ≤ 65535) : Cod PartN where
  enc p := match p with
    | .obj vs => encG cs vs
    | _ => ⟨#[]⟩
  dec s := if (decG cs s.data.toList).2 = 0 then some (.obj (decG cs s.data.toList).1) else none
  ok p := ∃ vs, p = .obj vs ∧ okG cs vs
  zero := .obj (zeroG cs)
  cap := 65535
  there p h := by obtain ⟨v, rfl, h⟩ := h; simp only []; rw [decG_enc cs v h hc hn]; rfl
  back s p h := by
    split at h
    · rename_i c0
      injection h with h
      subst h
      obtain ⟨h1, h2⟩ := decG_inv cs s _ (Prod.ext rfl c0)
      exact ⟨⟨_, rfl, h1⟩, h2⟩
    · cases h
  none_ := by
    have e := decG_enc cs (zeroG cs) (okG_zero cs) hc hn
    rw [encG_zero] at e
    rw [e]; rfl
  small p h := by obtain ⟨v, rfl, h⟩ := h; exact hs v h
/-- A part that is not there: 0 alone may stand. -/
def noneP {β : Type} (c : Cod β) : Cod β where
  enc _ := ⟨#[]⟩
  dec s := if s.size = 0 then some c.zero else none
  ok v := v = c.zero
  zero := c.zero
  cap := 0
  there v h := by subst h; rfl
  back s v h := by
    split at h
    · rename_i q
      injection h with h
      exact ⟨h.symm, (empty_of s q).symm⟩
    · cases h
  none_ := rfl
  small v h := Nat.le_refl 0

/-! ### Objects are short -/
theorem lstV_small {most : Nat} {it : Cod (List Int)} {hm : most * (2 + it.cap) ≤ 65535} {hi : it.cap ≤ 65535} (v : ValN) (h : (lstV most it hm hi).ok v) : ((lstV most it hm hi).enc v).size ≤ most * (2 + it.cap) := by
  obtain ⟨l, rfl, h1, h2⟩ := h
  show (encT (l.map it.enc)).size ≤ _
  unfold encT
  split
  · rw [mkB_size]
    have q := bytsT_capped (l.map it.enc) it.cap (fun s hs => by
      obtain ⟨x, hx, rfl⟩ := List.mem_map.1 hs
      exact it.small x (h2 x hx))
    rw [List.length_map] at q
    exact Nat.le_trans q (Nat.mul_le_mul_right _ h1)
  · exact Nat.zero_le _
def Caps {β : Type} : List (Cod β) → List Nat → Prop
  | [], [] => True
  | c :: cs, b :: bs => (∀ v, c.ok v → (c.enc v).size ≤ b) ∧ Caps cs bs
  | _, _ => False
theorem attrsG_caps {β : Type} : ∀ (cs : List (Cod β)) (bs : List Nat) (vs : List β) (k : Nat), Caps cs bs → okG cs vs → (bytsA (attrsG k cs vs)).length ≤ (bs.map fun b => 3 + b).sum
  | [], [], [], _, _, _ => by simp [attrsG, bytsA]
  | c :: cs, b :: bs, v :: vs, k, hc, h => by
    have q := attrsG_caps cs bs vs (k + 1) hc.2 h.2
    have r := hc.1 v h.1
    unfold attrsG
    rw [List.map_cons, List.sum_cons]
    split
    · omega
    · rw [bytsA_cons, List.length_append, bytA_length]
      show 3 + (c.enc v).size + _ ≤ _
      omega
  | [], _ :: _, _, _, hc, _ => hc.elim
  | _ :: _, [], _, _, hc, _ => hc.elim
  | [], [], _ :: _, _, _, h => h.elim
  | _ :: _, _ :: _, [], _, _, h => h.elim
theorem encG_caps {β : Type} {cs : List (Cod β)} {bs : List Nat} (hc : Caps cs bs) (hb : (bs.map fun b => 3 + b).sum ≤ 65535) {vs : List β} (h : okG cs vs) : (encG cs vs).size ≤ 65535 := by
  unfold encG encA
  split
  · rw [mkB_size]
    exact Nat.le_trans (attrsG_caps cs bs vs 1 hc h) hb
  · exact Nat.zero_le _
theorem csKind_small (k : Nat) (vs : List ValN) (h : okG (csKind k) vs) : (encG (csKind k) vs).size ≤ 65535 := by
  match k with
  | 0 => exact encG_caps (cs := csNode) (bs := [8, 8, 8, 8, 8, 8, 8, 8, 32 * (2 + cArm.cap)]) ⟨nI.small, nI.small, nI.small, nI.small, nI.small, nI.small, nI.small, nI.small, lstV_small, trivial⟩ (by decide) h
  | 1 => exact encG_caps (cs := csField) (bs := [8, 8, 8, 8, 8]) ⟨nI.small, nB.small, nI.small, nI.small, nI.small, trivial⟩ (by decide) h
  | 2 => exact encG_caps (cs := csTable) (bs := [8, 8, 4 * (2 + cKey.cap), 8, 8]) ⟨nI.small, nB.small, lstV_small, nI.small, nI.small, trivial⟩ (by decide) h
  | 3 => exact encG_caps (cs := csEntry) (bs := [8, 32, 32, 8, 8, 8, 4 * (2 + cArg.cap), 8, 8, 8, 8]) ⟨nI.small, tK.small, tK.small, nI.small, nI.small, nI.small, lstV_small, nL.small, nL.small, nU.small, nT.small, trivial⟩ (by decide) h
  | 4 => exact encG_caps (cs := csBlock) (bs := [8, 32 * (2 + cInstr.cap)]) ⟨nI.small, lstV_small, trivial⟩ (by decide) h
  | 5 => exact encG_caps (cs := csGroup) (bs := [8, 8, 8, 16 * (2 + cBucket.cap)]) ⟨nI.small, nB.small, nI.small, lstV_small, trivial⟩ (by decide) h
  | 6 => exact encG_caps (cs := csMeter) (bs := [8, 8, 8]) ⟨nI.small, nL.small, nL.small, trivial⟩ (by decide) h
  | k + 7 => exact encG_caps (cs := csRegs) (bs := [8, 8]) ⟨nI.small, nI.small, trivial⟩ (by decide) h

/-! ### The messages -/
/-- The types of the attributes that a kind has. -/
def hasL : Nat → List Nat
  | 2 | 44 => [6]
  | 3 | 4 => [8]
  | 6 => [2, 6]
  | 9 => [2, 3]
  | 10 => [3]
  | 11 => [10]
  | 13 => [11]
  | 15 => [12]
  | 17 | 18 => [13]
  | 19 => [14]
  | 21 => [15]
  | 23 => [16]
  | 25 => [17]
  | 12 | 14 | 16 | 20 | 22 | 24 | 26 | 27 | 28 | 29 | 34 | 45 => [1]
  | 30 => [1, 6, 7]
  | 31 => [1, 2, 6]
  | 32 | 33 => [1, 2, 9]
  | 35 | 46 => [1, 6]
  | 37 => [9]
  | 38 => [4]
  | 39 => [2, 4, 6]
  | 40 => [4, 8]
  | 41 => [4, 5, 8]
  | 42 => [5, 13]
  | _ => []
def lWords : Cod ValN := lstV 128 cArg (by decide) (by decide)
/-- The code of a part, from 0 on; most: the bytes of Data. -/
def partC (most : Nat) : Nat → Cod PartN
  | 0 | 1 | 2 | 3 | 4 => oneP nI
  | 5 | 6 => oneP nU
  | 7 => oneP (txtV most)
  | 8 => oneP lWords
  | i => objP (csKind (i - 9)) (csKind_cap _) (by have := csKind_length (i - 9); omega) (csKind_small _)
def csM (most : Nat) (k : Nat) : List (Cod PartN) := (List.range 17).map fun i => if (i + 1) ∈ hasL k then partC most i else noneP (partC most i)
theorem csM_length (most k : Nat) : (csM most k).length = 17 := by simp [csM]
theorem csM_at (most k i : Nat) (hi : i < 17) : (csM most k)[i]? = some (if (i + 1) ∈ hasL k then partC most i else noneP (partC most i)) := by
  simp [csM, hi]
theorem partC_cap (most i : Nat) (hm : most ≤ 65535) : (partC most i).cap ≤ 65535 := by
  match i with
  | 0 | 1 | 2 | 3 | 4 | 5 | 6 => exact (by decide : 8 ≤ 65535)
  | 7 => exact hm
  | 8 => exact Nat.le_refl 65535
  | i + 9 => exact Nat.le_refl 65535
theorem csM_cap (most k : Nat) (hm : most ≤ 65535) : ∀ c ∈ csM most k, c.cap ≤ 65535 := by
  intro c hc
  obtain ⟨i, _, rfl⟩ := List.mem_map.1 hc
  split
  · exact partC_cap most i hm
  · exact Nat.zero_le _
abbrev topD : Nat := 9223372036854775807
/-- The parts of a message of which all is 0. -/
def zeroP : List PartN := (List.range 17).map fun i => (partC 65535 i).zero
theorem partC_zero (most i : Nat) : (partC most i).zero = (partC 65535 i).zero := by
  match i with
  | 0 | 1 | 2 | 3 | 4 | 5 | 6 | 7 | 8 => rfl
  | i + 9 => rfl
theorem zeroG_csM (most k : Nat) : zeroG (csM most k) = zeroP := by
  unfold zeroG csM zeroP
  rw [List.map_map]
  apply List.map_congr_left
  intro i _
  simp only [Function.comp_apply]
  split
  · exact partC_zero most i
  · exact partC_zero most i
def headB (k x : Nat) : List UInt8 := [UInt8.ofNat k, UInt8.ofNat (x / 16777216), UInt8.ofNat (x / 65536), UInt8.ofNat (x / 256), UInt8.ofNat x]
theorem headB_length (k x : Nat) : (headB k x).length = 5 := rfl
/-- May it be said? -/
def MayM (k : Nat) (ps : List PartN) : Prop := (1 ≤ k ∧ k ≤ 46) ∧ okG (csM topD k) ps
/-- The body, and the error. -/
def bodyM (k x : Nat) (ps : List PartN) : List UInt8 := headB k x ++ bytsA (attrsG 1 (csM topD k) ps)
def EncM (k x : Nat) (ps : List PartN) (T : ByteArray) (r : Nat) : Prop :=
  (MayM k ps ∧ (bodyM k x ps).length ≤ 16384 ∧ T = mkB (bodyM k x ps) ∧ r = 0) ∨
  (MayM k ps ∧ 16384 < (bodyM k x ps).length ∧ T = ⟨#[]⟩ ∧ r = 5) ∨
  (¬ MayM k ps ∧ T = ⟨#[]⟩ ∧ r = 3)
/-- The message of a body, and the error. -/
def decM (s : List UInt8) : (Nat × Nat × List PartN) × Nat :=
  if s.length < 5 then ((0, 0, zeroP), 4) else if 16384 < s.length then ((0, 0, zeroP), 5) else
  let k := (s.headD 0).toNat
  if k < 1 ∨ 46 < k then ((0, 0, zeroP), 15) else
  if (decG (csM 65535 k) (s.drop 5)).2 = 0 then ((k, readB ((s.drop 1).take 4), (decG (csM 65535 k) (s.drop 5)).1), 0) else ((0, 0, zeroP), (decG (csM 65535 k) (s.drop 5)).2)
/-! ### What follows -/
theorem okG_iff {β : Type} : ∀ (cs : List (Cod β)) (vs : List β), okG cs vs ↔ vs.length = cs.length ∧ ∀ (i : Nat) (c : Cod β) (v : β), cs[i]? = some c → vs[i]? = some v → c.ok v
  | [], [] => by simp [okG]
  | [], _ :: _ => by simp [okG]
  | _ :: _, [] => by simp [okG]
  | c :: cs, v :: vs => by
    show c.ok v ∧ okG cs vs ↔ _
    rw [okG_iff cs vs]
    constructor
    · rintro ⟨h1, h2, h3⟩
      refine ⟨by simp [h2], fun i d u e1 e2 => ?_⟩
      match i, e1, e2 with
      | 0, e1, e2 => injection e1 with e1; injection e2 with e2; subst e1 e2; exact h1
      | i + 1, e1, e2 => exact h3 i d u e1 e2
    · rintro ⟨h2, h3⟩
      exact ⟨h3 0 c v rfl rfl, by simpa using h2, fun i d u e1 e2 => h3 (i + 1) d u e1 e2⟩
theorem attrsG_congr {β : Type} : ∀ (cs ds : List (Cod β)) (vs : List β) (k : Nat), cs.map Cod.enc = ds.map Cod.enc → attrsG k cs vs = attrsG k ds vs
  | [], [], _, _, _ => rfl
  | [], _ :: _, _, _, h => by simp at h
  | _ :: _, [], _, _, h => by simp at h
  | c :: cs, d :: ds, [], _, _ => by simp [attrsG]
  | c :: cs, d :: ds, v :: vs, k, h => by
    simp only [List.map_cons, List.cons.injEq] at h
    unfold attrsG
    rw [h.1, attrsG_congr cs ds vs (k + 1) h.2]
theorem partC_enc (most i : Nat) : (partC most i).enc = (partC 65535 i).enc := by
  match i with
  | 0 | 1 | 2 | 3 | 4 | 5 | 6 | 7 | 8 => rfl
  | i + 9 => rfl
theorem csM_enc (most k : Nat) : (csM most k).map Cod.enc = (csM 65535 k).map Cod.enc := by
  unfold csM
  rw [List.map_map, List.map_map]
  apply List.map_congr_left
  intro i _
  simp only [Function.comp_apply]
  split
  · exact partC_enc most i
  · rfl
theorem attrsG_csM (most k : Nat) (ps : List PartN) : attrsG 1 (csM most k) ps = attrsG 1 (csM 65535 k) ps := attrsG_congr _ _ _ _ (csM_enc most k)
theorem attrsG_enc_le {β : Type} : ∀ (cs : List (Cod β)) (vs : List β) (k i : Nat) (c : Cod β) (v : β), cs[i]? = some c → vs[i]? = some v → (c.enc v).size ≤ (bytsA (attrsG k cs vs)).length
  | [], _, _, i, _, _, h, _ => by simp at h
  | _ :: _, [], _, i, _, _, _, h => by simp at h
  | c :: cs, v :: vs, k, i, d, u, h1, h2 => by
    unfold attrsG
    match i, h1, h2 with
    | 0, h1, h2 =>
      injection h1 with h1; injection h2 with h2; subst h1 h2
      split
      · omega
      · rw [bytsA_cons, List.length_append, bytA_length]
        show _ ≤ 3 + (c.enc v).size + _
        omega
    | i + 1, h1, h2 =>
      have q := attrsG_enc_le cs vs (k + 1) i d u h1 h2
      split
      · exact q
      · rw [bytsA_cons, List.length_append]
        omega
theorem partC_ok_up (i : Nat) (p : PartN) (h : (partC 65535 i).ok p) : (partC topD i).ok p := by
  match i with
  | 0 | 1 | 2 | 3 | 4 | 5 | 6 | 8 => exact h
  | 7 => obtain ⟨v, rfl, s, rfl, hs⟩ := h; exact ⟨_, rfl, s, rfl, by show s.size ≤ 9223372036854775807; omega⟩
  | i + 9 => exact h
theorem partC_ok_down (i : Nat) (p : PartN) (h : (partC topD i).ok p) (hs : ((partC topD i).enc p).size ≤ 65535) : (partC 65535 i).ok p := by
  match i with
  | 0 | 1 | 2 | 3 | 4 | 5 | 6 | 8 => exact h
  | 7 => obtain ⟨v, rfl, s, rfl, _⟩ := h; exact ⟨_, rfl, s, rfl, hs⟩
  | i + 9 => exact h
theorem csM_ok_up {k : Nat} {ps : List PartN} (h : okG (csM 65535 k) ps) : okG (csM topD k) ps := by
  rw [okG_iff] at h ⊢
  refine ⟨by rw [h.1, csM_length, csM_length], fun i c v e1 e2 => ?_⟩
  have hi : i < 17 := by have := (List.getElem?_eq_some_iff.1 e1).1; rwa [csM_length] at this
  have q := h.2 i _ v (csM_at 65535 k i hi) e2
  rw [csM_at topD k i hi] at e1
  injection e1 with e1
  subst e1
  split
  · rename_i c0; rw [if_pos c0] at q; exact partC_ok_up i v q
  · rename_i c0; rw [if_neg c0] at q; exact q.trans (partC_zero topD i).symm
theorem csM_ok_down {k : Nat} {ps : List PartN} (h : okG (csM topD k) ps) (hs : (bytsA (attrsG 1 (csM topD k) ps)).length ≤ 65535) : okG (csM 65535 k) ps := by
  rw [okG_iff] at h ⊢
  refine ⟨by rw [h.1, csM_length, csM_length], fun i c v e1 e2 => ?_⟩
  have hi : i < 17 := by have := (List.getElem?_eq_some_iff.1 e1).1; rwa [csM_length] at this
  have q := h.2 i _ v (csM_at topD k i hi) e2
  have l := attrsG_enc_le (csM topD k) ps 1 i _ v (csM_at topD k i hi) e2
  rw [csM_at 65535 k i hi] at e1
  injection e1 with e1
  subst e1
  split
  · rename_i c0; rw [if_pos c0] at q l; exact partC_ok_down i v q (Nat.le_trans l hs)
  · rename_i c0; rw [if_neg c0] at q; exact q.trans (partC_zero topD i)
theorem readB4 (x : Nat) (h : x < 4294967296) : readB [UInt8.ofNat (x / 16777216), UInt8.ofNat (x / 65536), UInt8.ofNat (x / 256), UInt8.ofNat x] = x := by
  simp only [readB, List.foldl_cons, List.foldl_nil, UInt8.toNat_ofNat']
  omega
theorem headB_read (a b c d e : UInt8) : headB a.toNat (readB [b, c, d, e]) = [a, b, c, d, e] := by
  have hb := b.toNat_lt; have hc := c.toNat_lt; have hd := d.toNat_lt; have he := e.toNat_lt
  have q : readB [b, c, d, e] = ((b.toNat * 256 + c.toNat) * 256 + d.toNat) * 256 + e.toNat := by simp [readB]
  unfold headB
  rw [q]
  congr 1
  · exact UInt8.ofNat_toNat
  · refine List.cons_eq_cons.2 ⟨?_, List.cons_eq_cons.2 ⟨?_, List.cons_eq_cons.2 ⟨?_, List.cons_eq_cons.2 ⟨?_, rfl⟩⟩⟩⟩ <;>
    · apply UInt8.toNat.inj
      rw [UInt8.toNat_ofNat']
      omega
theorem decM_enc {k x : Nat} {ps : List PartN} (h : MayM k ps) (hx : x < 4294967296) (hl : (bodyM k x ps).length ≤ 16384) : decM (bodyM k x ps) = ((k, x, ps), 0) := by
  have hl2 : (bytsA (attrsG 1 (csM topD k) ps)).length ≤ 16379 := by
    have : (bodyM k x ps).length = 5 + (bytsA (attrsG 1 (csM topD k) ps)).length := by unfold bodyM; rw [List.length_append, headB_length]
    omega
  have hok := csM_ok_down h.2 (by omega)
  have hcap := csM_cap 65535 k (by omega)
  have hd := decG_enc (csM 65535 k) ps hok hcap (by rw [csM_length]; omega)
  rw [encG_bytes _ _ hok hcap, mkB_data] at hd
  have e : (bodyM k x ps).drop 5 = bytsA (attrsG 1 (csM 65535 k) ps) := by rw [← attrsG_csM topD]; rfl
  have e0 : ((bodyM k x ps).headD 0).toNat = k := by
    show (UInt8.ofNat k).toNat = k
    rw [UInt8.toNat_ofNat']; have := h.1; omega
  have e1 : readB (((bodyM k x ps).drop 1).take 4) = x := readB4 x hx
  have l5 : ¬ (bodyM k x ps).length < 5 := by unfold bodyM; rw [List.length_append, headB_length]; omega
  unfold decM
  rw [if_neg l5, if_neg (by omega)]
  simp only [e0]
  rw [if_neg (by have := h.1; omega), e, hd, e1]
  rfl
theorem decM_cases (s : List UInt8) : (∃ k x ps, decM s = ((k, x, ps), 0)) ∨ (∃ r, r ≠ 0 ∧ decM s = ((0, 0, zeroP), r)) := by
  unfold decM
  split
  · exact .inr ⟨4, by decide, rfl⟩
  · split
    · exact .inr ⟨5, by decide, rfl⟩
    · simp only []
      split
      · exact .inr ⟨15, by decide, rfl⟩
      · split
        · exact .inl ⟨_, _, _, rfl⟩
        · rename_i q; exact .inr ⟨_, q, rfl⟩
theorem decM_inv {s : List UInt8} {k x : Nat} {ps : List PartN} (h : decM s = ((k, x, ps), 0)) : MayM k ps ∧ x < 4294967296 ∧ bodyM k x ps = s ∧ s.length ≤ 16384 := by
  unfold decM at h
  split at h
  · cases h
  rename_i l5
  split at h
  · cases h
  rename_i l6
  simp only [] at h
  split at h
  · cases h
  rename_i hk
  split at h
  · rename_i hd
    simp only [Prod.mk.injEq] at h
    obtain ⟨⟨rfl, rfl, rfl⟩, -⟩ := h
    obtain ⟨h1, h2⟩ := decG_inv (csM 65535 (s.headD 0).toNat) (mkB (s.drop 5)) _ (Prod.ext rfl (by rw [mkB_data]; exact hd))
    rw [mkB_data] at h1 h2
    have hcap := csM_cap 65535 (s.headD 0).toNat (by omega)
    rw [encG_bytes _ _ h1 hcap] at h2
    have h3 := mkB_inj h2
    match s, l5 with
    | a :: b :: c :: d :: e :: s, _ =>
      refine ⟨⟨by omega, csM_ok_up h1⟩, ?_, ?_, by omega⟩
      · have q : readB [b, c, d, e] < 256 ^ 4 := readB_lt [b, c, d, e]
        rw [show (256 : Nat) ^ 4 = 4294967296 by decide] at q
        exact q
      · unfold bodyM
        rw [attrsG_csM topD, h3]
        show headB a.toNat (readB [b, c, d, e]) ++ s = _
        rw [headB_read]; rfl
    | [], l5 => exact absurd (show ([] : List UInt8).length < 5 by decide) l5
    | [_], l5 => exact absurd (show 1 < 5 by decide) l5
    | [_, _], l5 => exact absurd (show 2 < 5 by decide) l5
    | [_, _, _], l5 => exact absurd (show 3 < 5 by decide) l5
    | [_, _, _, _], l5 => exact absurd (show 4 < 5 by decide) l5
  · rename_i hd
    simp only [Prod.mk.injEq] at h
    exact absurd h.2 hd
end Go.Proofs.YtilpimilbjcifaaGreatDoor

/- The kinds' table, and package proto's has. -/
namespace Go.Proofs.YtilpimilbjcifaaGreatDoor
set_option linter.unusedVariables false
set_option maxRecDepth 20000
open Go.ChangeShapes Go.WideShapes Go.ChangeAt Go.RowKit Go.Joins
open Go.ChangeMaps (open_string shut_string)

def maskL : List Int := [0, 0, 64, 256, 256, 0, 68, 0, 0, 12, 8, 1024, 2, 2048, 2, 4096, 2, 8192, 8192, 16384, 2, 32768, 2, 65536, 2, 131072, 2, 2, 2, 2, 194, 70, 518, 518, 2, 66, 0, 512, 16, 84, 272, 304, 8224, 0, 64, 2, 66]
/-- The kinds' table lies as its text lays it. -/
def KindsAt (w : World) : Prop := ∀ i m, maskL[i]? = some m → w.cell? ⟨0, i, none⟩ = some (.int .u32 m)
theorem KindsAt.on {W w : World} (h : KindsAt W) (g : Wider W w) : KindsAt w := fun i m hm => wkeep g (h i m hm)
def hasB (m : Int) (t : Nat) : Bool := bits BinOp.and IntKind.u32 (m / 2 ^ min t 32) 1 == 1
theorem has_all : ((List.range 47).all fun k => (List.range 256).all fun t => hasB (maskL.getD k 0) t == decide (t ∈ hasL k)) = true := by kernel_rfl
theorem has_none : ((List.range 256).all fun k => decide (k < 47) || (hasL k).isEmpty) = true := by kernel_rfl
theorem hasB_eq {k t : Nat} {m : Int} (hm : maskL[k]? = some m) (ht : t < 256) : hasB m t = decide (t ∈ hasL k) := by
  have hk : k < 47 := (List.getElem?_eq_some_iff.1 hm).1
  have h := List.all_eq_true.1 (List.all_eq_true.1 has_all k (List.mem_range.2 hk)) t (List.mem_range.2 ht)
  have e : maskL.getD k 0 = m := by rw [List.getD_eq_getElem?_getD, hm]; rfl
  rw [e] at h
  exact eq_of_beq h
theorem hasL_none {k : Nat} (hk : k < 256) (c : ¬ k < 47) : hasL k = [] := by
  have h := List.all_eq_true.1 has_none k (List.mem_range.2 hk)
  simpa [c] using h
theorem has_c (w : World) (k t : Nat) (hk : k < 256) (ht : t < 256) (HK : KindsAt w) {r : Bool} (hr : r = decide (t ∈ hasL k)) :
    Calls Tryz.prog 34 #[.int .u8 (k : Int), .int .u8 (t : Int)] w fun e w' => e = .returned (.bool r) ∧ w' = w := by
  by_cases c : k < 47
  · have c1 : (k : Int) < 47 := by omega
    obtain ⟨m, hm⟩ : ∃ m, maskL[k]? = some m := ⟨maskL[k]'c, List.getElem?_eq_getElem _⟩
    have hc := HK k m hm
    have HM := Lib.hid hm
    clear hm HK
    have HR := Lib.hid hr
    clear hr
    have H : Wider w w := Wider.refl w
    go_enter Tryz.func34, Tryz.ntmps34
    go_wp2
    go_ret
    exact ⟨by rw [HR.out, ← hasB_eq HM.out ht]; rfl, rfl⟩
  · have c1 : ¬ (k : Int) < 47 := by omega
    obtain rfl : r = false := by
      rw [hr, hasL_none hk c]; rfl
    clear HK hr
    go_enter Tryz.func34, Tryz.ntmps34
    go_wp2
    go_ret
    exact ⟨rfl, rfl⟩
end Go.Proofs.YtilpimilbjcifaaGreatDoor

/- Package proto's and the document's small helpers: kinds that are known, ints and numbers as bytes; by walks. -/
namespace Go.Proofs.YtilpimilbjcifaaGreatDoor
set_option linter.unusedVariables false
set_option maxRecDepth 20000
open Go.ChangeShapes Go.WideShapes Go.ChangeAt Go.RowKit Go.Joins
open Go.ChangeMaps (open_string shut_string)

theorem rnum_le {s : List UInt8} {top v r : Nat} (h : rnumN s top = (v, r)) : v ≤ top := by
  rcases rnum_codes s top with c | c
  · rw [h] at c
    simp only at c
    subst c
    exact (rnum_inv s top v h).1
  · rw [h] at c
    simp only [Prod.mk.injEq] at c
    omega
theorem known_c (w : World) (k : Nat) (hk : k < 256) {r : Bool} (hr : r = decide (1 ≤ k ∧ k ≤ 46)) :
    Calls Tryz.prog 12 #[.int .u8 (k : Int)] w fun e w' => e = .returned (.bool r) ∧ Wider w w' := by
  by_cases c : 1 ≤ (k : Int)
  · by_cases d : (k : Int) ≤ 46
    · obtain rfl : r = true := by rw [hr, decide_eq_true_eq]; omega
      clear hr
      go_enter Tryz.func12, Tryz.ntmps12
      go_wp2
      go_ret
      exact ⟨rfl, Wider.refl w⟩
    · obtain rfl : r = false := by rw [hr, decide_eq_false_iff_not]; omega
      clear hr
      go_enter Tryz.func12, Tryz.ntmps12
      go_wp2
      go_ret
      exact ⟨rfl, Wider.refl w⟩
  · obtain rfl : r = false := by rw [hr, decide_eq_false_iff_not]; omega
    clear hr
    go_enter Tryz.func12, Tryz.ntmps12
    go_wp2
    go_ret
    exact ⟨rfl, Wider.refl w⟩
theorem rknown_c (w : World) (k : Nat) (hk : k < 256) {r : Bool} (hr : r = decide (1 ≤ k ∧ k ≤ 46)) :
    Calls Tryz.prog 27 #[.int .u8 (k : Int)] w fun e w' => e = .returned (.bool r) ∧ Wider w w' := by
  by_cases c : 1 ≤ (k : Int)
  · by_cases d : (k : Int) ≤ 46
    · obtain rfl : r = true := by rw [hr, decide_eq_true_eq]; omega
      clear hr
      go_enter Tryz.func27, Tryz.ntmps27
      go_wp2
      go_ret
      exact ⟨rfl, Wider.refl w⟩
    · obtain rfl : r = false := by rw [hr, decide_eq_false_iff_not]; omega
      clear hr
      go_enter Tryz.func27, Tryz.ntmps27
      go_wp2
      go_ret
      exact ⟨rfl, Wider.refl w⟩
  · obtain rfl : r = false := by rw [hr, decide_eq_false_iff_not]; omega
    clear hr
    go_enter Tryz.func27, Tryz.ntmps27
    go_wp2
    go_ret
    exact ⟨rfl, Wider.refl w⟩
/-- What a part's putting tells: its text, or error 3. -/
def PutC {β : Type} (c : Cod β) (v : β) (T : ByteArray) (r : Nat) : Prop := (c.ok v ∧ T = c.enc v ∧ r = 0) ∨ (¬ c.ok v ∧ T = ⟨#[]⟩ ∧ r = 3)
theorem putInt_c (w : World) (n : Int) (h0 : -9223372036854775808 ≤ n) (h1 : n ≤ 9223372036854775807) {T : ByteArray} {r : Nat} (hr : PutC iI n T r) :
    Calls Tryz.prog 109 #[.int .i64 n] w fun e w' => e = .returned (.tuple #[.string T, .int .i64 (r : Int)]) ∧ Wider w w' := by
  rcases hr with ⟨⟨g0, g1⟩, hT, rfl⟩ | ⟨g, rfl, rfl⟩
  · have g2 : n ≤ 2147483647 := g1
    obtain ⟨k, rfl⟩ : ∃ k : Nat, n = (k : Int) := ⟨n.toNat, by omega⟩
    have c0 : ¬ (k : Int) < 0 := by omega
    have c1 : ¬ (2147483647 : Int) < (k : Int) := by omega
    have zn := fun W : World => tnum_a k W (by omega) (T := T) (by rw [hT]; rfl)
    clear hT g1
    go_enter Tryz.func109, Tryz.ntmps109
    go_wp2_with (first | (go_at_call 110; (with_reducible refine (zn _).mono ?_); rintro e wN ⟨rfl, gN⟩))
    go_ret2
    exact ⟨rfl, gN⟩
  · by_cases c0 : n < 0
    · clear g
      go_enter Tryz.func109, Tryz.ntmps109
      go_wp2
      go_ret2
      exact ⟨rfl, Wider.refl w⟩
    · have c1 : (2147483647 : Int) < n := by
        have : ¬ (0 ≤ n ∧ n ≤ 2147483647) := g
        omega
      clear g
      go_enter Tryz.func109, Tryz.ntmps109
      go_wp2
      go_ret2
      exact ⟨rfl, Wider.refl w⟩
theorem getInt_c (w : World) (s : ByteArray) (hs : s.size < 1000000) {v r : Nat} (hr : rnumN s.data.toList 2147483647 = (v, r)) :
    Calls Tryz.prog 80 #[.string s] w fun e w' => e = .returned (.tuple #[.int .i64 (v : Int), .int .i64 (r : Int)]) ∧ Wider w w' := by
  have hv := rnum_le hr
  have v0 : (0 : Int) ≤ (v : Int) := by omega
  have v1 : (v : Int) ≤ 2147483647 := by omega
  have zr := fun W : World => treadnum_a s 2147483647 W (by omega) (by decide) hr
  simp only [Int.cast_ofNat_Int] at zr
  clear hr hv
  go_enter Tryz.func80, Tryz.ntmps80
  go_wp2_with (first | (go_at_call 122; (with_reducible refine (zr _).mono ?_); rintro e wN ⟨rfl, gN⟩))
  go_ret2
  exact ⟨rfl, gN⟩
theorem getLong_c (w : World) (s : ByteArray) (hs : s.size < 1000000) {v r : Nat} (hr : rnumN s.data.toList 18446744073709551615 = (v, r)) :
    Calls Tryz.prog 81 #[.string s] w fun e w' => e = .returned (.tuple #[.int .u64 (v : Int), .int .i64 (r : Int)]) ∧ Wider w w' := by
  have hv := rnum_le hr
  have v0 : (0 : Int) ≤ (v : Int) := by omega
  have v1 : (v : Int) ≤ 18446744073709551615 := by omega
  have zr := fun W : World => treadnum_a s 18446744073709551615 W (by omega) (by decide) hr
  simp only [Int.cast_ofNat_Int] at zr
  clear hr hv
  go_enter Tryz.func81, Tryz.ntmps81
  go_wp2_with (first | (go_at_call 122; (with_reducible refine (zr _).mono ?_); rintro e wN ⟨rfl, gN⟩))
  go_ret2
  exact ⟨rfl, gN⟩
theorem whole_c (w : World) (s : ByteArray) (hs : s.size < 1000000) {v r : Nat} (hr : rnumN s.data.toList 2147483647 = (v, r)) :
    Calls Tryz.prog 91 #[.string s] w fun e w' => e = .returned (.tuple #[.int .i64 (v : Int), .bool ((r : Int) == 0)]) ∧ Wider w w' := by
  have hv := rnum_le hr
  have v0 : (0 : Int) ≤ (v : Int) := by omega
  have v1 : (v : Int) ≤ 2147483647 := by omega
  have zr := fun W : World => rreadnum_c s 2147483647 W (by omega) (by decide) hr
  simp only [Int.cast_ofNat_Int] at zr
  clear hr hv
  go_enter Tryz.func91, Tryz.ntmps91
  go_wp2_with (first | (go_at_call 92; (with_reducible refine (zr _).mono ?_); rintro e wN ⟨rfl, gN⟩))
  go_ret2
  exact ⟨rfl, gN⟩
end Go.Proofs.YtilpimilbjcifaaGreatDoor

/- Numbers: are two rows of words the same, by a walk. -/
namespace Go.Proofs.YtilpimilbjcifaaGreatDoor
set_option linter.unusedVariables false
set_option maxRecDepth 20000
open Go.ChangeShapes Go.WideShapes Go.ChangeAt Go.RowKit Go.Joins
open Go.ChangeMaps (open_string shut_string)

set_option maxHeartbeats 8000000 in
theorem numbers_c (W : World) (A B : Option Addr) (n cap m cap2 : Nat) (l l2 : List (List Value)) (hA : RowAt W A 1 l) (hB : RowAt W B 1 l2) (hn : l.length = n) (hm : l2.length = m) (hn9 : n < 1000000) (hm9 : m < 1000000) (hs : ∀ x ∈ l, (∃ v0 : Int, x = [.int .u64 v0])) (hs2 : ∀ x ∈ l2, (∃ v0 : Int, x = [.int .u64 v0])) {r : Bool} (hr : l = l2 ↔ r = true) :
    Calls Tryz.prog 43 #[.slice A n cap, .slice B m cap2] W fun e w' => e = .returned (.bool r) ∧ Wider W w' := by
  by_cases hl0 : n = m
  · subst hl0
    have d0 : ((n : Int) != (n : Int)) = false := bne_self_eq_false _
    have HN := Lib.hid hn
    have HM := Lib.hid hm
    have HS := Lib.hid hs
    have HS2 := Lib.hid hs2
    have HR := Lib.hid hr
    clear hs hs2 hn hm hr
    go_enter Tryz.func43, Tryz.ntmps43
    go_wp2
    go_loopw [5] (fun i wr => ∃ j : Nat, j ≤ n ∧ i = .int .i64 (j : Int) ∧ l.take j = l2.take j ∧ ∃ q : Nat, wr = World.drewN W q) (fun i _ => n - (intOf i).toNat)
    case atStart => exact ⟨0, by omega, by simp, rfl, 0, rfl⟩
    case round =>
      obtain ⟨j, hj, rfl, hjt, q, rfl⟩ := hrel
      have hA2 := hA
      have hB2 := hB
      have HJ := Lib.hid hjt
      clear hjt
      by_cases c : j < n
      · have j0 : (0 : Int) ≤ (j : Int) := by omega
        have j1 : (j : Int) < (n : Int) := by omega
        obtain ⟨x, hx⟩ : ∃ x, l[j]? = some x := ⟨l[j]'(by have := HN.out; omega), List.getElem?_eq_getElem _⟩
        obtain ⟨y, hy⟩ : ∃ y, l2[j]? = some y := ⟨l2[j]'(by have := HM.out; omega), List.getElem?_eq_getElem _⟩
        cases A with
        | none => exact absurd (hA.none_ rfl) (by intro e; rw [e] at hx; simp at hx)
        | some A0 =>
          cases B with
          | none => exact absurd (hB.none_ rfl) (by intro e; rw [e] at hy; simp at hy)
          | some B0 =>
            obtain ⟨x0, rfl⟩ := HS.out x (List.mem_of_getElem? hx)
            obtain ⟨y0, rfl⟩ := HS2.out y (List.mem_of_getElem? hy)
            have kx := row_cell hA2 hx
            have ky := row_cell hB2 hy
            have cx0 := kx.1 _ rfl
            have cy0 := ky.1 _ rfl
            rw [Nat.mul_one] at cx0 cy0
            have HX := Lib.hid hx
            have HY := Lib.hid hy
            clear kx ky hx hy hA2 hB2
            by_cases z0 : x0 = y0
            · subst z0
              have g0 : (x0 != x0) = false := bne_self_eq_false _
              go_wp2
              go_quiet (fail)
              go_wp2
              go_roundw
              case rel => exact ⟨j + 1, by omega, by go_num, take_one HJ.out HX.out HY.out, _, rfl⟩
              case measure => simp [intOf]; omega
            · have g0 : (x0 != y0) = true := by rw [bne_iff_ne]; exact z0
              obtain rfl : r = false := by
                cases r with
                | false => rfl
                | true =>
                  have h := HR.out.2 rfl
                  have h1 := HX.out
                  rw [h, HY.out] at h1
                  simp at h1
                  exact absurd h1.symm z0
              clear z0
              go_wp2
              go_quiet (fail)
              go_wp2
              go_ret
              exact ⟨rfl, ((Wider.refl W).drewN q).drewN nq⟩
      · have hl : l = l2 := by
          have h := HJ.out
          rw [List.take_of_length_le (by have := HN.out; omega), List.take_of_length_le (by have := HM.out; omega)] at h
          exact h
        obtain rfl : r = true := HR.out.1 hl
        have i1 : ¬ (j : Int) < (n : Int) := by omega
        clear HR hl
        go_wp2
        go_ret
        exact ⟨rfl, (Wider.refl W).drewN q⟩
  · have d0 : ((n : Int) != (m : Int)) = true := by rw [bne_iff_ne]; omega
    obtain rfl : r = false := by
      cases r with
      | false => rfl
      | true => exact absurd (by rw [← hn, ← hm, hr.2 rfl]) hl0
    clear hr
    go_enter Tryz.func43, Tryz.ntmps43
    go_wp2
    go_ret
    exact ⟨rfl, Wider.refl W⟩
end Go.Proofs.YtilpimilbjcifaaGreatDoor

/- The document's Has: the types of each kind, kind by kind; by walks. -/
namespace Go.Proofs.YtilpimilbjcifaaGreatDoor
set_option linter.unusedVariables false
set_option maxRecDepth 20000
open Go.ChangeShapes Go.WideShapes Go.ChangeAt Go.RowKit Go.Joins
open Go.ChangeMaps (open_string shut_string)

/-- A row of types. -/
def cells8 (l : List Nat) : List Value := l.map fun (t : Nat) => Value.int .u8 (t : Int)
theorem cells8_len (l : List Nat) : (cells8 l).length = l.length := by simp [cells8]
theorem own8_none (w : World) (b : Nat) : w.ownsRow b 5 1 (.slice none 0 0) ([] : List Nat).length (cells8 []) := ⟨rfl, .inl ⟨rfl, rfl⟩⟩
theorem own8_new (w : World) (l : List Nat) (hl : l.length < 100) : (w.alloc (.cells (cells8 l).toArray 5)).ownsRow w.heap.size 5 1 (.slice (some ⟨w.heap.size, 0, none⟩) l.length l.length) l.length (cells8 l) :=
  ⟨by rw [cells8_len, Nat.mul_one], .inr ⟨w.heap.size, l.length, (cells8 l).toArray, rfl, Nat.le_refl _, heap_alloc_new w _, Nat.le_refl _, Nat.le_trans (Nat.le_of_lt hl) (by decide), by simp [cells8_len], by rw [Nat.mul_one]; show (cells8 l).take l.length = cells8 l; exact List.take_of_length_le (by rw [cells8_len]; exact Nat.le_refl _)⟩⟩
def rhasGoal (w : World) (k : Nat) : Prop := Calls Tryz.prog 29 #[.int .u8 (k : Int)] w fun e w' => ∃ v, e = .returned v ∧ Wider w w' ∧ w'.ownsRow w.heap.size 5 1 v (hasL k).length (cells8 (hasL k))
theorem rhas_2 (w : World) : rhasGoal w 2 := by
  unfold rhasGoal
  go_enter Tryz.func29, Tryz.ntmps29
  go_wp2
  go_ret
  exact ⟨.slice (some ⟨w.heap.size, 0, none⟩) (hasL 2).length (hasL 2).length, rfl, (Wider.refl w).alloc _, own8_new w (hasL 2) (by decide)⟩
theorem rhas_3 (w : World) : rhasGoal w 3 := by
  unfold rhasGoal
  go_enter Tryz.func29, Tryz.ntmps29
  go_wp2
  go_ret
  exact ⟨.slice (some ⟨w.heap.size, 0, none⟩) (hasL 3).length (hasL 3).length, rfl, (Wider.refl w).alloc _, own8_new w (hasL 3) (by decide)⟩
theorem rhas_4 (w : World) : rhasGoal w 4 := by
  unfold rhasGoal
  go_enter Tryz.func29, Tryz.ntmps29
  go_wp2
  go_ret
  exact ⟨.slice (some ⟨w.heap.size, 0, none⟩) (hasL 4).length (hasL 4).length, rfl, (Wider.refl w).alloc _, own8_new w (hasL 4) (by decide)⟩
theorem rhas_6 (w : World) : rhasGoal w 6 := by
  unfold rhasGoal
  go_enter Tryz.func29, Tryz.ntmps29
  go_wp2
  go_ret
  exact ⟨.slice (some ⟨w.heap.size, 0, none⟩) (hasL 6).length (hasL 6).length, rfl, (Wider.refl w).alloc _, own8_new w (hasL 6) (by decide)⟩
theorem rhas_9 (w : World) : rhasGoal w 9 := by
  unfold rhasGoal
  go_enter Tryz.func29, Tryz.ntmps29
  go_wp2
  go_ret
  exact ⟨.slice (some ⟨w.heap.size, 0, none⟩) (hasL 9).length (hasL 9).length, rfl, (Wider.refl w).alloc _, own8_new w (hasL 9) (by decide)⟩
theorem rhas_10 (w : World) : rhasGoal w 10 := by
  unfold rhasGoal
  go_enter Tryz.func29, Tryz.ntmps29
  go_wp2
  go_ret
  exact ⟨.slice (some ⟨w.heap.size, 0, none⟩) (hasL 10).length (hasL 10).length, rfl, (Wider.refl w).alloc _, own8_new w (hasL 10) (by decide)⟩
theorem rhas_11 (w : World) : rhasGoal w 11 := by
  unfold rhasGoal
  go_enter Tryz.func29, Tryz.ntmps29
  go_wp2
  go_ret
  exact ⟨.slice (some ⟨w.heap.size, 0, none⟩) (hasL 11).length (hasL 11).length, rfl, (Wider.refl w).alloc _, own8_new w (hasL 11) (by decide)⟩
theorem rhas_12 (w : World) : rhasGoal w 12 := by
  unfold rhasGoal
  go_enter Tryz.func29, Tryz.ntmps29
  go_wp2
  go_ret
  exact ⟨.slice (some ⟨w.heap.size, 0, none⟩) (hasL 12).length (hasL 12).length, rfl, (Wider.refl w).alloc _, own8_new w (hasL 12) (by decide)⟩
theorem rhas_13 (w : World) : rhasGoal w 13 := by
  unfold rhasGoal
  go_enter Tryz.func29, Tryz.ntmps29
  go_wp2
  go_ret
  exact ⟨.slice (some ⟨w.heap.size, 0, none⟩) (hasL 13).length (hasL 13).length, rfl, (Wider.refl w).alloc _, own8_new w (hasL 13) (by decide)⟩
theorem rhas_14 (w : World) : rhasGoal w 14 := by
  unfold rhasGoal
  go_enter Tryz.func29, Tryz.ntmps29
  go_wp2
  go_ret
  exact ⟨.slice (some ⟨w.heap.size, 0, none⟩) (hasL 14).length (hasL 14).length, rfl, (Wider.refl w).alloc _, own8_new w (hasL 14) (by decide)⟩
theorem rhas_15 (w : World) : rhasGoal w 15 := by
  unfold rhasGoal
  go_enter Tryz.func29, Tryz.ntmps29
  go_wp2
  go_ret
  exact ⟨.slice (some ⟨w.heap.size, 0, none⟩) (hasL 15).length (hasL 15).length, rfl, (Wider.refl w).alloc _, own8_new w (hasL 15) (by decide)⟩
theorem rhas_16 (w : World) : rhasGoal w 16 := by
  unfold rhasGoal
  go_enter Tryz.func29, Tryz.ntmps29
  go_wp2
  go_ret
  exact ⟨.slice (some ⟨w.heap.size, 0, none⟩) (hasL 16).length (hasL 16).length, rfl, (Wider.refl w).alloc _, own8_new w (hasL 16) (by decide)⟩
theorem rhas_17 (w : World) : rhasGoal w 17 := by
  unfold rhasGoal
  go_enter Tryz.func29, Tryz.ntmps29
  go_wp2
  go_ret
  exact ⟨.slice (some ⟨w.heap.size, 0, none⟩) (hasL 17).length (hasL 17).length, rfl, (Wider.refl w).alloc _, own8_new w (hasL 17) (by decide)⟩
theorem rhas_18 (w : World) : rhasGoal w 18 := by
  unfold rhasGoal
  go_enter Tryz.func29, Tryz.ntmps29
  go_wp2
  go_ret
  exact ⟨.slice (some ⟨w.heap.size, 0, none⟩) (hasL 18).length (hasL 18).length, rfl, (Wider.refl w).alloc _, own8_new w (hasL 18) (by decide)⟩
theorem rhas_19 (w : World) : rhasGoal w 19 := by
  unfold rhasGoal
  go_enter Tryz.func29, Tryz.ntmps29
  go_wp2
  go_ret
  exact ⟨.slice (some ⟨w.heap.size, 0, none⟩) (hasL 19).length (hasL 19).length, rfl, (Wider.refl w).alloc _, own8_new w (hasL 19) (by decide)⟩
theorem rhas_20 (w : World) : rhasGoal w 20 := by
  unfold rhasGoal
  go_enter Tryz.func29, Tryz.ntmps29
  go_wp2
  go_ret
  exact ⟨.slice (some ⟨w.heap.size, 0, none⟩) (hasL 20).length (hasL 20).length, rfl, (Wider.refl w).alloc _, own8_new w (hasL 20) (by decide)⟩
theorem rhas_21 (w : World) : rhasGoal w 21 := by
  unfold rhasGoal
  go_enter Tryz.func29, Tryz.ntmps29
  go_wp2
  go_ret
  exact ⟨.slice (some ⟨w.heap.size, 0, none⟩) (hasL 21).length (hasL 21).length, rfl, (Wider.refl w).alloc _, own8_new w (hasL 21) (by decide)⟩
theorem rhas_22 (w : World) : rhasGoal w 22 := by
  unfold rhasGoal
  go_enter Tryz.func29, Tryz.ntmps29
  go_wp2
  go_ret
  exact ⟨.slice (some ⟨w.heap.size, 0, none⟩) (hasL 22).length (hasL 22).length, rfl, (Wider.refl w).alloc _, own8_new w (hasL 22) (by decide)⟩
theorem rhas_23 (w : World) : rhasGoal w 23 := by
  unfold rhasGoal
  go_enter Tryz.func29, Tryz.ntmps29
  go_wp2
  go_ret
  exact ⟨.slice (some ⟨w.heap.size, 0, none⟩) (hasL 23).length (hasL 23).length, rfl, (Wider.refl w).alloc _, own8_new w (hasL 23) (by decide)⟩
theorem rhas_24 (w : World) : rhasGoal w 24 := by
  unfold rhasGoal
  go_enter Tryz.func29, Tryz.ntmps29
  go_wp2
  go_ret
  exact ⟨.slice (some ⟨w.heap.size, 0, none⟩) (hasL 24).length (hasL 24).length, rfl, (Wider.refl w).alloc _, own8_new w (hasL 24) (by decide)⟩
theorem rhas_25 (w : World) : rhasGoal w 25 := by
  unfold rhasGoal
  go_enter Tryz.func29, Tryz.ntmps29
  go_wp2
  go_ret
  exact ⟨.slice (some ⟨w.heap.size, 0, none⟩) (hasL 25).length (hasL 25).length, rfl, (Wider.refl w).alloc _, own8_new w (hasL 25) (by decide)⟩
theorem rhas_26 (w : World) : rhasGoal w 26 := by
  unfold rhasGoal
  go_enter Tryz.func29, Tryz.ntmps29
  go_wp2
  go_ret
  exact ⟨.slice (some ⟨w.heap.size, 0, none⟩) (hasL 26).length (hasL 26).length, rfl, (Wider.refl w).alloc _, own8_new w (hasL 26) (by decide)⟩
theorem rhas_27 (w : World) : rhasGoal w 27 := by
  unfold rhasGoal
  go_enter Tryz.func29, Tryz.ntmps29
  go_wp2
  go_ret
  exact ⟨.slice (some ⟨w.heap.size, 0, none⟩) (hasL 27).length (hasL 27).length, rfl, (Wider.refl w).alloc _, own8_new w (hasL 27) (by decide)⟩
theorem rhas_28 (w : World) : rhasGoal w 28 := by
  unfold rhasGoal
  go_enter Tryz.func29, Tryz.ntmps29
  go_wp2
  go_ret
  exact ⟨.slice (some ⟨w.heap.size, 0, none⟩) (hasL 28).length (hasL 28).length, rfl, (Wider.refl w).alloc _, own8_new w (hasL 28) (by decide)⟩
theorem rhas_29 (w : World) : rhasGoal w 29 := by
  unfold rhasGoal
  go_enter Tryz.func29, Tryz.ntmps29
  go_wp2
  go_ret
  exact ⟨.slice (some ⟨w.heap.size, 0, none⟩) (hasL 29).length (hasL 29).length, rfl, (Wider.refl w).alloc _, own8_new w (hasL 29) (by decide)⟩
theorem rhas_30 (w : World) : rhasGoal w 30 := by
  unfold rhasGoal
  go_enter Tryz.func29, Tryz.ntmps29
  go_wp2
  go_ret
  exact ⟨.slice (some ⟨w.heap.size, 0, none⟩) (hasL 30).length (hasL 30).length, rfl, (Wider.refl w).alloc _, own8_new w (hasL 30) (by decide)⟩
theorem rhas_31 (w : World) : rhasGoal w 31 := by
  unfold rhasGoal
  go_enter Tryz.func29, Tryz.ntmps29
  go_wp2
  go_ret
  exact ⟨.slice (some ⟨w.heap.size, 0, none⟩) (hasL 31).length (hasL 31).length, rfl, (Wider.refl w).alloc _, own8_new w (hasL 31) (by decide)⟩
theorem rhas_32 (w : World) : rhasGoal w 32 := by
  unfold rhasGoal
  go_enter Tryz.func29, Tryz.ntmps29
  go_wp2
  go_ret
  exact ⟨.slice (some ⟨w.heap.size, 0, none⟩) (hasL 32).length (hasL 32).length, rfl, (Wider.refl w).alloc _, own8_new w (hasL 32) (by decide)⟩
theorem rhas_33 (w : World) : rhasGoal w 33 := by
  unfold rhasGoal
  go_enter Tryz.func29, Tryz.ntmps29
  go_wp2
  go_ret
  exact ⟨.slice (some ⟨w.heap.size, 0, none⟩) (hasL 33).length (hasL 33).length, rfl, (Wider.refl w).alloc _, own8_new w (hasL 33) (by decide)⟩
theorem rhas_34 (w : World) : rhasGoal w 34 := by
  unfold rhasGoal
  go_enter Tryz.func29, Tryz.ntmps29
  go_wp2
  go_ret
  exact ⟨.slice (some ⟨w.heap.size, 0, none⟩) (hasL 34).length (hasL 34).length, rfl, (Wider.refl w).alloc _, own8_new w (hasL 34) (by decide)⟩
theorem rhas_35 (w : World) : rhasGoal w 35 := by
  unfold rhasGoal
  go_enter Tryz.func29, Tryz.ntmps29
  go_wp2
  go_ret
  exact ⟨.slice (some ⟨w.heap.size, 0, none⟩) (hasL 35).length (hasL 35).length, rfl, (Wider.refl w).alloc _, own8_new w (hasL 35) (by decide)⟩
theorem rhas_37 (w : World) : rhasGoal w 37 := by
  unfold rhasGoal
  go_enter Tryz.func29, Tryz.ntmps29
  go_wp2
  go_ret
  exact ⟨.slice (some ⟨w.heap.size, 0, none⟩) (hasL 37).length (hasL 37).length, rfl, (Wider.refl w).alloc _, own8_new w (hasL 37) (by decide)⟩
theorem rhas_38 (w : World) : rhasGoal w 38 := by
  unfold rhasGoal
  go_enter Tryz.func29, Tryz.ntmps29
  go_wp2
  go_ret
  exact ⟨.slice (some ⟨w.heap.size, 0, none⟩) (hasL 38).length (hasL 38).length, rfl, (Wider.refl w).alloc _, own8_new w (hasL 38) (by decide)⟩
theorem rhas_39 (w : World) : rhasGoal w 39 := by
  unfold rhasGoal
  go_enter Tryz.func29, Tryz.ntmps29
  go_wp2
  go_ret
  exact ⟨.slice (some ⟨w.heap.size, 0, none⟩) (hasL 39).length (hasL 39).length, rfl, (Wider.refl w).alloc _, own8_new w (hasL 39) (by decide)⟩
theorem rhas_40 (w : World) : rhasGoal w 40 := by
  unfold rhasGoal
  go_enter Tryz.func29, Tryz.ntmps29
  go_wp2
  go_ret
  exact ⟨.slice (some ⟨w.heap.size, 0, none⟩) (hasL 40).length (hasL 40).length, rfl, (Wider.refl w).alloc _, own8_new w (hasL 40) (by decide)⟩
theorem rhas_41 (w : World) : rhasGoal w 41 := by
  unfold rhasGoal
  go_enter Tryz.func29, Tryz.ntmps29
  go_wp2
  go_ret
  exact ⟨.slice (some ⟨w.heap.size, 0, none⟩) (hasL 41).length (hasL 41).length, rfl, (Wider.refl w).alloc _, own8_new w (hasL 41) (by decide)⟩
theorem rhas_42 (w : World) : rhasGoal w 42 := by
  unfold rhasGoal
  go_enter Tryz.func29, Tryz.ntmps29
  go_wp2
  go_ret
  exact ⟨.slice (some ⟨w.heap.size, 0, none⟩) (hasL 42).length (hasL 42).length, rfl, (Wider.refl w).alloc _, own8_new w (hasL 42) (by decide)⟩
theorem rhas_44 (w : World) : rhasGoal w 44 := by
  unfold rhasGoal
  go_enter Tryz.func29, Tryz.ntmps29
  go_wp2
  go_ret
  exact ⟨.slice (some ⟨w.heap.size, 0, none⟩) (hasL 44).length (hasL 44).length, rfl, (Wider.refl w).alloc _, own8_new w (hasL 44) (by decide)⟩
theorem rhas_45 (w : World) : rhasGoal w 45 := by
  unfold rhasGoal
  go_enter Tryz.func29, Tryz.ntmps29
  go_wp2
  go_ret
  exact ⟨.slice (some ⟨w.heap.size, 0, none⟩) (hasL 45).length (hasL 45).length, rfl, (Wider.refl w).alloc _, own8_new w (hasL 45) (by decide)⟩
theorem rhas_46 (w : World) : rhasGoal w 46 := by
  unfold rhasGoal
  go_enter Tryz.func29, Tryz.ntmps29
  go_wp2
  go_ret
  exact ⟨.slice (some ⟨w.heap.size, 0, none⟩) (hasL 46).length (hasL 46).length, rfl, (Wider.refl w).alloc _, own8_new w (hasL 46) (by decide)⟩
theorem rhas_none (w : World) (k : Nat) (hk : k < 256) (h : hasL k = []) : rhasGoal w k := by
  have H : ((k : Int) == 2) = false ∧ ((k : Int) == 3) = false ∧ ((k : Int) == 4) = false ∧ ((k : Int) == 6) = false ∧ ((k : Int) == 9) = false ∧ ((k : Int) == 10) = false ∧ ((k : Int) == 11) = false ∧ ((k : Int) == 12) = false ∧ ((k : Int) == 13) = false ∧ ((k : Int) == 14) = false ∧ ((k : Int) == 15) = false ∧ ((k : Int) == 16) = false ∧ ((k : Int) == 17) = false ∧ ((k : Int) == 18) = false ∧ ((k : Int) == 19) = false ∧ ((k : Int) == 20) = false ∧ ((k : Int) == 21) = false ∧ ((k : Int) == 22) = false ∧ ((k : Int) == 23) = false ∧ ((k : Int) == 24) = false ∧ ((k : Int) == 25) = false ∧ ((k : Int) == 26) = false ∧ ((k : Int) == 27) = false ∧ ((k : Int) == 28) = false ∧ ((k : Int) == 29) = false ∧ ((k : Int) == 30) = false ∧ ((k : Int) == 31) = false ∧ ((k : Int) == 32) = false ∧ ((k : Int) == 33) = false ∧ ((k : Int) == 34) = false ∧ ((k : Int) == 35) = false ∧ ((k : Int) == 37) = false ∧ ((k : Int) == 38) = false ∧ ((k : Int) == 39) = false ∧ ((k : Int) == 40) = false ∧ ((k : Int) == 41) = false ∧ ((k : Int) == 42) = false ∧ ((k : Int) == 44) = false ∧ ((k : Int) == 45) = false ∧ ((k : Int) == 46) = false := by
    refine ⟨?_, ?_, ?_, ?_, ?_, ?_, ?_, ?_, ?_, ?_, ?_, ?_, ?_, ?_, ?_, ?_, ?_, ?_, ?_, ?_, ?_, ?_, ?_, ?_, ?_, ?_, ?_, ?_, ?_, ?_, ?_, ?_, ?_, ?_, ?_, ?_, ?_, ?_, ?_, ?_⟩ <;> (rw [beq_eq_false_iff_ne]; intro e; obtain rfl := Int.ofNat_inj.1 e; cases h)
  obtain ⟨h2, h3, h4, h6, h9, h10, h11, h12, h13, h14, h15, h16, h17, h18, h19, h20, h21, h22, h23, h24, h25, h26, h27, h28, h29, h30, h31, h32, h33, h34, h35, h37, h38, h39, h40, h41, h42, h44, h45, h46⟩ := H
  unfold rhasGoal
  rw [h]
  go_enter Tryz.func29, Tryz.ntmps29
  go_wp2
  go_ret
  exact ⟨.slice none 0 0, rfl, Wider.refl w, own8_none w _⟩
theorem rhas_c (w : World) (k : Nat) (hk : k < 256) : rhasGoal w k := by
  by_cases c : k < 47
  · match k, c with
    | 0, _ => exact rhas_none w 0 (by decide) rfl
    | 1, _ => exact rhas_none w 1 (by decide) rfl
    | 2, _ => exact rhas_2 w
    | 3, _ => exact rhas_3 w
    | 4, _ => exact rhas_4 w
    | 5, _ => exact rhas_none w 5 (by decide) rfl
    | 6, _ => exact rhas_6 w
    | 7, _ => exact rhas_none w 7 (by decide) rfl
    | 8, _ => exact rhas_none w 8 (by decide) rfl
    | 9, _ => exact rhas_9 w
    | 10, _ => exact rhas_10 w
    | 11, _ => exact rhas_11 w
    | 12, _ => exact rhas_12 w
    | 13, _ => exact rhas_13 w
    | 14, _ => exact rhas_14 w
    | 15, _ => exact rhas_15 w
    | 16, _ => exact rhas_16 w
    | 17, _ => exact rhas_17 w
    | 18, _ => exact rhas_18 w
    | 19, _ => exact rhas_19 w
    | 20, _ => exact rhas_20 w
    | 21, _ => exact rhas_21 w
    | 22, _ => exact rhas_22 w
    | 23, _ => exact rhas_23 w
    | 24, _ => exact rhas_24 w
    | 25, _ => exact rhas_25 w
    | 26, _ => exact rhas_26 w
    | 27, _ => exact rhas_27 w
    | 28, _ => exact rhas_28 w
    | 29, _ => exact rhas_29 w
    | 30, _ => exact rhas_30 w
    | 31, _ => exact rhas_31 w
    | 32, _ => exact rhas_32 w
    | 33, _ => exact rhas_33 w
    | 34, _ => exact rhas_34 w
    | 35, _ => exact rhas_35 w
    | 36, _ => exact rhas_none w 36 (by decide) rfl
    | 37, _ => exact rhas_37 w
    | 38, _ => exact rhas_38 w
    | 39, _ => exact rhas_39 w
    | 40, _ => exact rhas_40 w
    | 41, _ => exact rhas_41 w
    | 42, _ => exact rhas_42 w
    | 43, _ => exact rhas_none w 43 (by decide) rfl
    | 44, _ => exact rhas_44 w
    | 45, _ => exact rhas_45 w
    | 46, _ => exact rhas_46 w
    | k + 47, c => omega
  · exact rhas_none w k hk (hasL_none hk c)
end Go.Proofs.YtilpimilbjcifaaGreatDoor

/- Rows of types: the law's types, the document's of; by walks. -/
namespace Go.Proofs.YtilpimilbjcifaaGreatDoor
set_option linter.unusedVariables false
set_option maxRecDepth 20000
open Go.ChangeShapes Go.WideShapes Go.ChangeAt Go.RowKit Go.Joins
open Go.ChangeMaps (open_string shut_string)

set_option maxHeartbeats 8000000 in
theorem types_c (W : World) (A B : Option Addr) (n cap m cap2 : Nat) (l l2 : List (List Value)) (hA : RowAt W A 1 l) (hB : RowAt W B 1 l2) (hn : l.length = n) (hm : l2.length = m) (hn9 : n < 1000000) (hm9 : m < 1000000) (hs : ∀ x ∈ l, (∃ v0 : Int, x = [.int .u8 v0])) (hs2 : ∀ x ∈ l2, (∃ v0 : Int, x = [.int .u8 v0])) {r : Bool} (hr : l = l2 ↔ r = true) :
    Calls Tryz.prog 28 #[.slice A n cap, .slice B m cap2] W fun e w' => e = .returned (.bool r) ∧ Wider W w' := by
  by_cases hl0 : n = m
  · subst hl0
    have d0 : ((n : Int) != (n : Int)) = false := bne_self_eq_false _
    have HN := Lib.hid hn
    have HM := Lib.hid hm
    have HS := Lib.hid hs
    have HS2 := Lib.hid hs2
    have HR := Lib.hid hr
    clear hs hs2 hn hm hr
    go_enter Tryz.func28, Tryz.ntmps28
    go_wp2
    go_loopw [5] (fun i wr => ∃ j : Nat, j ≤ n ∧ i = .int .i64 (j : Int) ∧ l.take j = l2.take j ∧ ∃ q : Nat, wr = World.drewN W q) (fun i _ => n - (intOf i).toNat)
    case atStart => exact ⟨0, by omega, by simp, rfl, 0, rfl⟩
    case round =>
      obtain ⟨j, hj, rfl, hjt, q, rfl⟩ := hrel
      have hA2 := hA
      have hB2 := hB
      have HJ := Lib.hid hjt
      clear hjt
      by_cases c : j < n
      · have j0 : (0 : Int) ≤ (j : Int) := by omega
        have j1 : (j : Int) < (n : Int) := by omega
        obtain ⟨x, hx⟩ : ∃ x, l[j]? = some x := ⟨l[j]'(by have := HN.out; omega), List.getElem?_eq_getElem _⟩
        obtain ⟨y, hy⟩ : ∃ y, l2[j]? = some y := ⟨l2[j]'(by have := HM.out; omega), List.getElem?_eq_getElem _⟩
        cases A with
        | none => exact absurd (hA.none_ rfl) (by intro e; rw [e] at hx; simp at hx)
        | some A0 =>
          cases B with
          | none => exact absurd (hB.none_ rfl) (by intro e; rw [e] at hy; simp at hy)
          | some B0 =>
            obtain ⟨x0, rfl⟩ := HS.out x (List.mem_of_getElem? hx)
            obtain ⟨y0, rfl⟩ := HS2.out y (List.mem_of_getElem? hy)
            have kx := row_cell hA2 hx
            have ky := row_cell hB2 hy
            have cx0 := kx.1 _ rfl
            have cy0 := ky.1 _ rfl
            rw [Nat.mul_one] at cx0 cy0
            have HX := Lib.hid hx
            have HY := Lib.hid hy
            clear kx ky hx hy hA2 hB2
            by_cases z0 : x0 = y0
            · subst z0
              have g0 : (x0 != x0) = false := bne_self_eq_false _
              go_wp2
              go_quiet (fail)
              go_wp2
              go_roundw
              case rel => exact ⟨j + 1, by omega, by go_num, take_one HJ.out HX.out HY.out, _, rfl⟩
              case measure => simp [intOf]; omega
            · have g0 : (x0 != y0) = true := by rw [bne_iff_ne]; exact z0
              obtain rfl : r = false := by
                cases r with
                | false => rfl
                | true =>
                  have h := HR.out.2 rfl
                  have h1 := HX.out
                  rw [h, HY.out] at h1
                  simp at h1
                  exact absurd h1.symm z0
              clear z0
              go_wp2
              go_quiet (fail)
              go_wp2
              go_ret
              exact ⟨rfl, ((Wider.refl W).drewN q).drewN nq⟩
      · have hl : l = l2 := by
          have h := HJ.out
          rw [List.take_of_length_le (by have := HN.out; omega), List.take_of_length_le (by have := HM.out; omega)] at h
          exact h
        obtain rfl : r = true := HR.out.1 hl
        have i1 : ¬ (j : Int) < (n : Int) := by omega
        clear HR hl
        go_wp2
        go_ret
        exact ⟨rfl, (Wider.refl W).drewN q⟩
  · have d0 : ((n : Int) != (m : Int)) = true := by rw [bne_iff_ne]; omega
    obtain rfl : r = false := by
      cases r with
      | false => rfl
      | true => exact absurd (by rw [← hn, ← hm, hr.2 rfl]) hl0
    clear hr
    go_enter Tryz.func28, Tryz.ntmps28
    go_wp2
    go_ret
    exact ⟨rfl, Wider.refl W⟩
abbrev ks8 : List IntKind := [.u8]
def L8 (l : List Nat) : List (List Int) := l.map fun (t : Nat) => [(t : Int)]
theorem cells8_K (l : List Nat) : cells8 l = cellsK ks8 (L8 l) := by
  induction l with
  | nil => rfl
  | cons t l ih => show Value.int .u8 (t : Int) :: cells8 l = _; rw [ih]; rfl
theorem own8_row {w : World} {b : Nat} {v : Value} {l : List Nat} (h : w.ownsRow b 5 1 v l.length (cells8 l)) : ∃ A cap, v = .slice A l.length cap ∧ RowAt w A 1 (rowsK ks8 (L8 l)) := by
  have hs : ∃ A cap, v = .slice A l.length cap := by
    rcases h.2 with ⟨e, q⟩ | ⟨g, cap, cur, e, _⟩
    · exact ⟨none, 0, by rw [e, q]⟩
    · exact ⟨_, cap, e⟩
  obtain ⟨A, cap, rfl⟩ := hs
  rw [cells8_K] at h
  exact ⟨A, cap, rfl, rowK_own (ks := ks8) (L := L8 l) rfl (by decide) (by simp [L8]) (fun x hx => by obtain ⟨t, _, rfl⟩ := List.mem_map.1 hx; rfl) h⟩
theorem row8_at {w : World} {A : Option Addr} {l : List Nat} (h : RowAt w A 1 (rowsK ks8 (L8 l))) {j t : Nat} (hj : l[j]? = some t) : ∃ a, A = some a ∧ w.cell? (a.add j) = some (.int .u8 (t : Int)) := by
  have hx : (rowsK ks8 (L8 l))[j]? = some [.int .u8 (t : Int)] := by
    unfold rowsK L8
    rw [List.getElem?_map, List.getElem?_map, hj]; rfl
  cases A with
  | none => rw [h.none_ rfl] at hx; simp at hx
  | some a =>
    refine ⟨a, rfl, ?_⟩
    have q := (row_cell h hx).1 _ rfl
    rwa [Nat.mul_one] at q
theorem hasL_short : ((List.range 256).all fun k => decide ((hasL k).length < 4) && (hasL k).all (fun t => decide (t < 18))) = true := by kernel_rfl
theorem hasL_len {k : Nat} (hk : k < 256) : (hasL k).length < 4 := by
  have h := List.all_eq_true.1 hasL_short k (List.mem_range.2 hk)
  rw [Bool.and_eq_true, decide_eq_true_eq] at h
  exact h.1
theorem of_c (w : World) (k t : Nat) (hk : k < 256) (ht : t < 256) {r : Bool} (hr : r = decide (t ∈ hasL k)) :
    Calls Tryz.prog 42 #[.int .u8 (k : Int), .int .u8 (t : Int)] w fun e w' => e = .returned (.bool r) ∧ Wider w w' := by
  have zh := fun W : World => rhas_c W k hk
  unfold rhasGoal at zh
  have h4 := hasL_len hk
  obtain ⟨l, hl⟩ : ∃ l, hasL k = l := ⟨_, rfl⟩
  rw [hl] at zh h4 hr
  clear hl
  obtain ⟨n, hn⟩ : ∃ n, l.length = n := ⟨_, rfl⟩
  have HR := Lib.hid hr
  have HN := Lib.hid hn
  clear hr
  go_enter Tryz.func42, Tryz.ntmps42
  go_upto_region 2 with (first | (go_at_call 29; (refine (zh _).mono ?_); rintro e wN ⟨v, rfl, gN, ho⟩))
  obtain ⟨A, cap, rfl, hA⟩ := own8_row ho
  rw [hn] at h4 ⊢
  clear ho hn zh
  go_wp2
  go_loopw [6] (fun i wr => ∃ j : Nat, j ≤ n ∧ i = .int .i64 (j : Int) ∧ (∀ x, x < j → l[x]? ≠ some t) ∧ wr = wN) (fun i _ => n - (intOf i).toNat)
  case atStart => exact ⟨0, by omega, by simp, fun x hx => absurd hx (Nat.not_lt_zero _), rfl⟩
  case round =>
    obtain ⟨j, hj, rfl, hno, rfl⟩ := hrel
    have HO := Lib.hid hno
    clear hno
    by_cases c : j < n
    · have j0 : (0 : Int) ≤ (j : Int) := by omega
      have j1 : (j : Int) < (n : Int) := by omega
      obtain ⟨x, hx⟩ : ∃ x, l[j]? = some x := ⟨l[j]'(by have := HN.out; omega), List.getElem?_eq_getElem _⟩
      obtain ⟨a, rfl, hc⟩ := row8_at hA hx
      have HX := Lib.hid hx
      clear hx
      by_cases z : x = t
      · subst z
        obtain rfl : r = true := by rw [HR.out, decide_eq_true_eq]; exact List.mem_of_getElem? HX.out
        have g0 : ((x : Int) == (x : Int)) = true := beq_self_eq_true _
        go_wp2
        go_ret
        exact ⟨rfl, gN⟩
      · have g0 : ((x : Int) == (t : Int)) = false := by rw [beq_eq_false_iff_ne]; omega
        clear z
        go_wp2
        go_roundw
        case rel => exact ⟨j + 1, by omega, by go_num, fun y hy e => by
          rcases Nat.lt_or_eq_of_le (Nat.le_of_lt_succ hy) with q | q
          · exact HO.out y q e
          · subst q
            rw [HX.out] at e
            injection e with e
            subst e
            simp at g0, trivial⟩
        case measure => simp [intOf]; omega
    · have j1 : ¬ (j : Int) < (n : Int) := by omega
      obtain rfl : r = false := by
        rw [HR.out, decide_eq_false_iff_not]
        intro e
        obtain ⟨y, hy⟩ := List.getElem?_of_mem e
        exact HO.out y (by have := (List.getElem?_eq_some_iff.1 hy).1; have := HN.out; omega) hy
      clear HR
      go_wp2
      go_ret
      exact ⟨rfl, gN⟩
end Go.Proofs.YtilpimilbjcifaaGreatDoor

/- Package proto's Has: the types of a kind, in their row; by a walk. -/
namespace Go.Proofs.YtilpimilbjcifaaGreatDoor
set_option linter.unusedVariables false
set_option maxRecDepth 20000
open Go.ChangeShapes Go.WideShapes Go.ChangeAt Go.RowKit Go.Joins
open Go.ChangeMaps (open_string shut_string)

/-- The types up to one. -/
def uptoT (k j : Nat) : List Nat := (List.range' 1 (j - 1)).filter fun t => decide (t ∈ hasL k)
theorem uptoT_next (k j : Nat) (hj : 1 ≤ j) : uptoT k (j + 1) = if j ∈ hasL k then uptoT k j ++ [j] else uptoT k j := by
  unfold uptoT
  have e : j + 1 - 1 = (j - 1) + 1 := by omega
  rw [e, List.range'_1_concat, List.filter_append]
  have e2 : 1 + (j - 1) = j := by omega
  rw [e2]
  by_cases c : j ∈ hasL k
  · simp [c]
  · simp [c]
theorem uptoT_all : ((List.range 256).all fun k => uptoT k 18 == hasL k) = true := by kernel_rfl
theorem uptoT_end {k : Nat} (hk : k < 256) : uptoT k 18 = hasL k := eq_of_beq (List.all_eq_true.1 uptoT_all k (List.mem_range.2 hk))
theorem uptoT_len (k j : Nat) : (uptoT k j).length ≤ j := Nat.le_trans (List.length_filter_le _ _) (by rw [List.length_range']; omega)
set_option maxHeartbeats 4000000 in
theorem thas_c (w : World) (k : Nat) (hk : k < 256) (HK : KindsAt w) :
    Calls Tryz.prog 13 #[.int .u8 (k : Int)] w fun e w' => ∃ v, e = .returned v ∧ Wider w w' ∧ w'.ownsRow w.heap.size 5 1 v (hasL k).length (cells8 (hasL k)) := by
  obtain ⟨i0, hi, hz0, hz1, hz2⟩ := infoN_parts
  have HH0 := Lib.hid HK
  clear HK
  go_enter Tryz.func13, Tryz.ntmps13
  go_wp2
  go_loopw [3, 4] (fun v i wr => ∃ j : Nat, 1 ≤ j ∧ j ≤ 18 ∧ i = .int .u8 (j : Int) ∧ Wider w wr ∧ wr.ownsRow w.heap.size 5 1 v (uptoT k j).length (cells8 (uptoT k j))) (fun _ i _ => 18 - (intOf i).toNat)
  case atStart => exact ⟨1, by omega, by omega, rfl, Wider.refl w, own8_none w _⟩
  case round =>
    obtain ⟨j, hj1, hj2, rfl, g, ho⟩ := hrel
    have HO := Lib.hid ho
    have HG := Lib.hid g
    by_cases c : j < 18
    · have j0 : (j : Int) ≤ 17 := by omega
      obtain ⟨r, hr⟩ : ∃ r : Bool, r = decide (j ∈ hasL k) := ⟨_, rfl⟩
      have zh := has_c wr k j hk (by omega) (HH0.out.on g) hr
      have hl := uptoT_len k j
      have S3 : Hid ((uptoT k j).length + 1 ≤ maxLen) := by show _ ≤ maxLen; unfold maxLen; omega
      have S4 : Hid (((uptoT k j).length + 1) * 1 ≤ 140737488355328) := by show _ ≤ _; omega
      have SIDE := Lib.hid (lies1 wr (.int .u8 (j : Int)) 5 rfl)
      have S5 : Hid (w.heap.size ≤ (wr.alloc (.cells #[.int .u8 (j : Int)] 5)).heap.size) := by show _ ≤ (wr.heap.push _).size; have := g.2; simp; omega
      have HO1 := Lib.hid (ho.alloc (.cells #[.int .u8 (j : Int)] 5))
      have HR := Lib.hid hr
      clear hr g ho hl
      cases r with
      | true =>
        have hm : j ∈ hasL k := of_decide_eq_true HR.out.symm
        have e := uptoT_next k j hj1
        rw [if_pos hm] at e
        have HE := Lib.hid e
        clear e hm
        go_wp2_with (first
          | (go_at_call 34; (refine zh.mono ?_); rintro e wN ⟨rfl, q⟩; obtain rfl := q.symm)
          | (at_builtin; refine wpList_append_own _ rfl (.tmp 12) (.tmp 14) 24 rfl w.heap.size 5 i0 (.int .u8 0) 1 1 Tryz.underlying24 hi hz0 hz1 hz2 rfl (by decide) _ _ _ rfl HO1.out ⟨wr.heap.size, 0, none⟩ 1 1 [.int .u8 (j : Int)] rfl rfl SIDE.out.1 SIDE.out.2 S3.out S4.out S5.out ?_; intro v1 w1 hown1 hgrow1 _; have G1 := wider_appendA HG.out HO.out hgrow1; have HO2 := Lib.hid hown1; clear hown1 hgrow1))
        go_roundw
        case rel => exact ⟨j + 1, by omega, by omega, by go_num, G1, by
          have h := HO2.out
          rw [HE.out, List.length_append]
          show World.ownsRow _ _ _ _ _ _ (cells8 (uptoT k j ++ [j]))
          rw [show cells8 (uptoT k j ++ [j]) = cells8 (uptoT k j) ++ [.int .u8 (j : Int)] by simp [cells8]]
          exact h⟩
        case measure => simp [intOf]; omega
      | false =>
        have hm : ¬ j ∈ hasL k := of_decide_eq_false HR.out.symm
        have e := uptoT_next k j hj1
        rw [if_neg hm] at e
        have HE := Lib.hid e
        clear e hm
        go_wp2_with (first
          | (go_at_call 34; (refine zh.mono ?_); rintro e wN ⟨rfl, q⟩; obtain rfl := q.symm))
        go_roundw
        case rel => exact ⟨j + 1, by omega, by omega, by go_num, HG.out, by rw [HE.out]; exact HO.out⟩
        case measure => simp [intOf]; omega
    · obtain rfl : j = 18 := by omega
      have j0 : ¬ (18 : Int) ≤ 17 := by omega
      rw [uptoT_end hk] at ho
      clear c HO
      go_wp2
      go_ret
      exact ⟨_, rfl, g, ho⟩
end Go.Proofs.YtilpimilbjcifaaGreatDoor

/- The first five bytes of a body: the document's Head, by a walk. -/
namespace Go.Proofs.YtilpimilbjcifaaGreatDoor
set_option linter.unusedVariables false
set_option maxRecDepth 20000
open Go.ChangeShapes Go.WideShapes Go.ChangeAt Go.RowKit Go.Joins
open Go.ChangeMaps (open_string shut_string)

theorem conv5 (W : World) (a b c d e : Int) : (convert 24 9 (.slice (some ⟨W.heap.size, 0, none⟩) 5 5)).run Tryz.prog (W.alloc (.cells #[.int .u8 a, .int .u8 b, .int .u8 c, .int .u8 d, .int .u8 e] 5)) = .ok (.string (strOfNums [a, b, c, d, e])) (W.alloc (.cells #[.int .u8 a, .int .u8 b, .int .u8 c, .int .u8 d, .int .u8 e] 5)) := by
  have hg := heap_alloc_new W (.cells #[.int .u8 a, .int .u8 b, .int .u8 c, .int .u8 d, .int .u8 e] 5)
  exact run_convert_bytes_arg (P := Tryz.prog) _ 24 5 Tryz.underlying24 Tryz.underlying5 W.heap.size 0 5 5 [a, b, c, d, e] rfl (fun i hi => by
    match i, hi with
    | 0, _ => exact blk_cell hg 0 rfl
    | 1, _ => exact blk_cell hg 1 rfl
    | 2, _ => exact blk_cell hg 2 rfl
    | 3, _ => exact blk_cell hg 3 rfl
    | 4, _ => exact blk_cell hg 4 rfl
    | i + 5, h => omega) 9 Tryz.underlying9
theorem head_nums (k x : Nat) (hk : k < 256) (hx : x < 4294967296) : strOfNums [(k : Int), (x : Int) / 16777216, (x : Int) / 65536 % 256, (x : Int) / 256 % 256, (x : Int) % 256] = mkB (headB k x) := by
  have q : ∀ n m : Nat, n % 256 = m % 256 → UInt8.ofNat n = UInt8.ofNat m := fun n m h => by
    apply UInt8.toNat.inj
    rw [UInt8.toNat_ofNat', UInt8.toNat_ofNat']
    exact h
  unfold strOfNums mkB headB
  congr 1
  simp only [List.map_cons, List.map_nil]
  rw [q (Int.toNat (k : Int)) k (by omega), q (Int.toNat ((x : Int) / 16777216)) (x / 16777216) (by omega), q (Int.toNat ((x : Int) / 65536 % 256)) (x / 65536) (by omega), q (Int.toNat ((x : Int) / 256 % 256)) (x / 256) (by omega), q (Int.toNat ((x : Int) % 256)) x (by omega)]
theorem rhead_c (w : World) (k x : Nat) (hk : k < 256) (hx : x < 4294967296) {T : ByteArray} (hT : T = mkB (headB k x)) :
    Calls Tryz.prog 33 #[.int .u8 (k : Int), .int .u32 (x : Int)] w fun e w' => e = .returned (.string T) ∧ Wider w w' := by
  have hcv := conv5
  have x0 : (0 : Int) ≤ (x : Int) := by omega
  have x1 : (x : Int) < 4294967296 := by omega
  have HT := Lib.hid (hT.trans (head_nums k x hk hx).symm)
  clear hT
  go_enter Tryz.func33, Tryz.ntmps33
  go_wp2
  go_ret
  exact ⟨congrArg (fun t => Ending.returned (Value.string t)) HT.out.symm, (Wider.refl w).alloc _⟩
end Go.Proofs.YtilpimilbjcifaaGreatDoor
