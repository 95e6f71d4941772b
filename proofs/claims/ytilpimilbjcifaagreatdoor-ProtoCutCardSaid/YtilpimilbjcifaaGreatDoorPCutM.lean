/- A body cut short; an attribute behind a body's head. No program is in sight. -/
import Derived.Test.YtilpimilbjcifaaGreatDoorPG6
import Derived.Test.YtilpimilbjcifaaGreatDoorPG5
namespace Go.Proofs.YtilpimilbjcifaaGreatDoor
set_option linter.unusedVariables false
set_option maxRecDepth 20000
open Go.ChangeShapes Go.WideShapes Go.ChangeAt Go.RowKit Go.Joins
open Go.ChangeMaps (open_string shut_string)

/-- The attributes of bytes cut short are the first ones. -/
theorem decA_cut {l : List AtN} (hl : okA 0 l = 0) (ht : ∀ a ∈ l, a.t < 256) {u rest : List UInt8} (hu : bytsA l = u ++ rest) {m : List AtN} (hd : decA [] 0 u = (m, 0)) : ∃ r, l = m ++ r := by
  obtain ⟨m', e1, e2, e3, e4⟩ := decA_inv u.length u rfl [] 0 m hd
  rw [List.nil_append] at e1
  subst e1
  have q := decA_enc l [] 0 [] hl ht
  rw [List.append_nil, decA_nil, hu, e2, decA_enc m [] 0 rest e3 e4, List.nil_append, List.nil_append] at q
  obtain ⟨r, h, _⟩ := decA_inv rest.length rest rfl m _ l q
  exact ⟨r, h⟩
theorem attrs_few (most k : Nat) (ps : List PartN) : (attrsG 1 (csM most k) ps).length ≤ 17 := by
  have key : ∀ (cs : List (Cod PartN)) (vs : List PartN) (j : Nat), (attrsG j cs vs).length ≤ cs.length := by
    intro cs
    induction cs with
    | nil => intro vs j; cases vs <;> exact Nat.le_refl 0
    | cons c cs ih =>
      intro vs j
      cases vs with
      | nil => exact Nat.zero_le _
      | cons v vs =>
        unfold attrsG
        have := ih vs (j + 1)
        split
        · simp only [List.length_cons]; omega
        · simp only [List.length_cons]; omega
  have := key (csM most k) ps 1
  rwa [csM_length] at this
theorem decM_bare {k x : Nat} (h1 : 1 ≤ k) (h2 : k ≤ 46) (hx : x < 4294967296) : decM (headB k x) = ((k, x, zeroP), 0) := by
  have hz : MayM k zeroP := ⟨⟨h1, h2⟩, by rw [← zeroG_csM topD k]; exact okG_zero _⟩
  have hb : bodyM k x zeroP = headB k x := by
    unfold bodyM
    rw [← zeroG_csM topD k, attrsG_zero, bytsA_nil, List.append_nil]
  have q := decM_enc hz hx (by rw [hb, headB_length]; decide)
  rw [hb] at q
  exact q
theorem decM_few {s : List UInt8} (h : s.length < 5) : decM s = ((0, 0, zeroP), 4) := by unfold decM; rw [if_pos h]
theorem decM_of {k x : Nat} (h1 : 1 ≤ k) (h2 : k ≤ 46) (hx : x < 4294967296) (u : List UInt8) (hu : u.length ≤ 16379) : decM (headB k x ++ u) = if (decG (csM 65535 k) u).2 = 0 then ((k, x, (decG (csM 65535 k) u).1), 0) else ((0, 0, zeroP), (decG (csM 65535 k) u).2) := by
  have l : (headB k x ++ u).length = 5 + u.length := by rw [List.length_append, headB_length]
  have e0 : ((headB k x ++ u).headD 0).toNat = k := by
    show (UInt8.ofNat k).toNat = k
    rw [UInt8.toNat_ofNat']; omega
  have e1 : readB (((headB k x ++ u).drop 1).take 4) = x := readB4 x hx
  have e5 : (headB k x ++ u).drop 5 = u := rfl
  unfold decM
  rw [if_neg (by omega), if_neg (by omega)]
  simp only [e0]
  rw [if_neg (by omega), e5, e1]
theorem decM_badA {k x : Nat} (h1 : 1 ≤ k) (h2 : k ≤ 46) (hx : x < 4294967296) (u : List UInt8) (hu : u.length ≤ 16379) {m : List AtN} {c : Nat} (hd : decA [] 0 u = (m, c)) (hc : c ≠ 0) : decM (headB k x ++ u) = ((0, 0, zeroP), c) := by
  have e : (decG (csM 65535 k) u).2 = c := by unfold decG; rw [hd, if_neg hc]
  rw [decM_of h1 h2 hx u hu, e, if_neg hc]
theorem decM_part {k x : Nat} {ps : List PartN} (hm : MayM k ps) (hx : x < 4294967296) (hl : (bodyM k x ps).length ≤ 16384) {u rest : List UInt8} (hu : bytsA (attrsG 1 (csM topD k) ps) = u ++ rest) {m : List AtN} (hd : decA [] 0 u = (m, 0)) : m.length ≤ 17 ∧ ∃ qs, decM (headB k x ++ u) = ((k, x, qs), 0) := by
  have hl2 : (bytsA (attrsG 1 (csM topD k) ps)).length ≤ 16379 := by
    have : (bodyM k x ps).length = 5 + (bytsA (attrsG 1 (csM topD k) ps)).length := by unfold bodyM; rw [List.length_append, headB_length]
    omega
  have hok := csM_ok_down hm.2 (by omega)
  have hcap := csM_cap 65535 k (by omega)
  have hA := okA_attrsG (csM 65535 k) ps 1 0 hok hcap (by omega)
  have ht : ∀ a ∈ attrsG 1 (csM 65535 k) ps, a.t < 256 := fun a ha => by have := attrsG_t (csM 65535 k) ps 1 a ha; rw [csM_length] at this; omega
  rw [attrsG_csM topD] at hu hl2
  obtain ⟨r, hr⟩ := decA_cut hA ht hu hd
  have hlen := attrs_few 65535 k ps
  rw [hr, List.length_append] at hlen
  have hR := readG_attrs (csM 65535 k) ps hok
  rw [hr, readG_append] at hR
  have hul : u.length ≤ 16379 := by rw [hu, List.length_append] at hl2; omega
  refine ⟨by omega, ?_⟩
  cases e : readG (csM 65535 k) (zeroG (csM 65535 k)) m with
  | none => rw [e] at hR; cases hR
  | some qs =>
    have g : decG (csM 65535 k) u = (qs, 0) := by unfold decG; rw [hd]; simp only [if_true, e]
    refine ⟨qs, ?_⟩
    rw [decM_of hm.1.1 hm.1.2 hx u hul, g, if_pos rfl]
theorem decM_behind {k x : Nat} (h1 : 1 ≤ k) (h2 : k ≤ 46) (hx : x < 4294967296) {t : Nat} {v : ByteArray} (ht : t < 256) (h0 : okA 0 [⟨t, v⟩] = 0) (hv : v.size ≤ 3000) (hk : t ∉ hasL k) : decM (headB k x ++ bytsA [⟨t, v⟩]) = ((0, 0, zeroP), 3) := by
  have hl : (bytsA [⟨t, v⟩]).length = 3 + v.size := by rw [bytsA_cons, bytsA_nil, List.append_nil, bytA_length]
  have hd : decA [] 0 (bytsA [⟨t, v⟩]) = ([⟨t, v⟩], 0) := by
    have q := decA_enc [⟨t, v⟩] [] 0 [] h0 (fun a ha => by rw [List.mem_singleton] at ha; subst ha; exact ht)
    rw [List.append_nil, decA_nil] at q
    exact q
  have hvn : v.size ≠ 0 := fun e => by
    have : okA 0 [⟨t, v⟩] = 3 := by unfold okA; rw [if_pos (.inr e)]
    omega
  have g : decG (csM 65535 k) (bytsA [⟨t, v⟩]) = (zeroG (csM 65535 k), 3) := by
    unfold decG
    rw [hd]
    simp only [if_true, readG]
    rw [stepM_no (a := ⟨t, v⟩) hvn hk]
  rw [decM_of h1 h2 hx _ (by omega), g, if_neg (show ¬ (3 : Nat) = 0 by decide)]
theorem okA_one (t : Nat) (v : ByteArray) (hv : v.size ≤ 3000) : okA 0 [⟨t, v⟩] = if t = 0 ∨ v.size = 0 then 3 else 0 := by
  show (if t ≤ 0 ∨ v.size = 0 then 3 else if 65535 < v.size then 5 else 0) = _
  by_cases c : t = 0 ∨ v.size = 0
  · rw [if_pos c, if_pos (by omega)]
  · rw [if_neg c, if_neg (by omega), if_neg (by omega)]
theorem enc_one {t : Nat} {v T : ByteArray} (h : encA [⟨t, v⟩] = T) (hv : v.size ≤ 3000) : (T = ⟨#[]⟩ ∧ okA 0 [⟨t, v⟩] = 3) ∨ (T.data.toList = bytsA [⟨t, v⟩] ∧ T.size ≠ 0 ∧ okA 0 [⟨t, v⟩] = 0 ∧ T.size ≤ 3003) := by
  have o := okA_one t v hv
  have l : (bytsA [⟨t, v⟩]).length = 3 + v.size := by rw [bytsA_cons, bytsA_nil, List.append_nil, bytA_length]
  by_cases c : t = 0 ∨ v.size = 0
  · rw [if_pos c] at o
    refine .inl ⟨?_, o⟩
    rw [← h]; unfold encA; rw [o]; rfl
  · rw [if_neg c] at o
    have e : T = mkB (bytsA [⟨t, v⟩]) := by rw [← h]; unfold encA; rw [o]; rfl
    refine .inr ⟨by rw [e, mkB_data], fun q => ?_, o, by rw [e, mkB_size, l]; omega⟩
    rw [e, mkB_size, l] at q
    omega
/-- A message of which all is 0, with a part of such a one. -/
theorem tak_zero (t : Nat) : SameD ((headD 0 0).tak (headD 0 0) (pI t)) (headD 0 0) := by
  have h17 : pI t < 17 := by unfold pI; split <;> omega
  obtain ⟨p1, p2, p3⟩ := tak_ps (headD 0 0) (headD 0 0) (pI t) h17
  refine ⟨p2, p3, ?_⟩
  rw [p1]
  have q := part_at (headD 0 0) (pI t) h17
  obtain ⟨h1, h2⟩ := List.getElem?_eq_some_iff.1 q
  rw [← h2]
  exact List.set_getElem_self h1
/-- A literal of attributes. -/
theorem ats_new (w : World) (l : List AtN) (t : TypeId) (C : Array Value) (hC : C = (cellsA l).toArray) : AtsAt (w.alloc (.cells C t)) (some ⟨w.heap.size, 0, none⟩) l where
  none_ e := by cases e
  cell a e j x hx := by
    obtain rfl : (⟨w.heap.size, 0, none⟩ : Addr) = a := by injection e
    have e2 : ∀ j, (⟨w.heap.size, 0, none⟩ : Addr).add j = ⟨w.heap.size, j, none⟩ := fun j => by
      unfold Addr.add; by_cases h : j = 0
      · subst h; simp
      · simp [h]
    obtain ⟨q0, q1⟩ := cellsA_at l j x hx
    refine ⟨?_, ?_⟩
    · rw [e2, World.cell?_alloc_new, hC]; simpa using q0
    · rw [addr_add2, e2, World.cell?_alloc_new, hC]; simpa using q1
theorem ba_append_data (a b : ByteArray) : (a ++ b).data.toList = a.data.toList ++ b.data.toList := by simp
theorem ba_append_size (a b : ByteArray) : (a ++ b).size = a.size + b.size := by simp
end Go.Proofs.YtilpimilbjcifaaGreatDoor
