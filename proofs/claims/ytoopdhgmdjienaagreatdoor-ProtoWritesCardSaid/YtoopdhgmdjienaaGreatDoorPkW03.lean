/- PMath Own RowT TMem RowU -/
import Derived.Test.YtoopdhgmdjienaaGreatDoorPkW02
import Derived.Test.YtoopdhgmdjienaaGreatDoorPkW01
import Derived.Laws.AppendOwn
import Derived.OwnWalk
import Derived.Laws.OwnMore
import Derived.Tactics
namespace Go.Proofs.YtoopdhgmdjienaaGreatDoor
set_option linter.unusedVariables false
inductive PartN
 | one (v : ValN)
 | obj (vs : List ValN)
def oneP (c : Cod ValN) : Cod PartN where
 enc p := match p with
  | .one v => c.enc v
  | _ => ⟨#[]⟩
 dec s := (c.dec s).map .one
 ok p := ∃ v, p = .one v ∧ c.ok v
 zero := .one c.zero
 cap := c.cap
 there p h := by obtain ⟨v, rfl, h⟩ := h; simp only [c.there v h, Option.map_some]
 back s p h := by
  cases e : c.dec s with
  | none => rw [e] at h; cases h
  | some v =>
    rw [e] at h
    simp only [Option.map_some, Option.some.injEq] at h
    subst h
    obtain ⟨h1, h2⟩ := c.back s v e
    exact ⟨⟨v, rfl, h1⟩, h2⟩
 none_ := by rw [c.none_]; rfl
 small p h := by obtain ⟨v, rfl, h⟩ := h; exact c.small v h
def objP (cs : List (Cod ValN)) (hc : ∀ c ∈ cs, c.cap ≤ 65535) (hn : cs.length < 255) (hs : ∀ vs, okG cs vs → (encG cs vs).size ≤ 65535) : Cod PartN where
 enc p := match p with
  | .obj vs => encG cs vs
  | _ => ⟨#[]⟩
 dec s := if (decG cs s.data.toList).2 = 0 then some (.obj (decG cs s.data.toList).1) else none
 ok p := ∃ vs, p = .obj vs ∧ okG cs vs
 zero := .obj (zeroG cs)
 cap := 65535
 there p h := by obtain ⟨v, rfl, h⟩ := h; simp only []; rw [decG_enc cs v h hc hn]; rfl
 back s p h := by
  split at h
  · rename_i c0
    injection h with h
    subst h
    obtain ⟨h1, h2⟩ := decG_inv cs s _ (Prod.ext rfl c0)
    exact ⟨⟨_, rfl, h1⟩, h2⟩
  · cases h
 none_ := by
  have e := decG_enc cs (zeroG cs) (okG_zero cs) hc hn
  rw [encG_zero] at e
  rw [e]; rfl
 small p h := by obtain ⟨v, rfl, h⟩ := h; exact hs v h
def noneP {β : Type} (c : Cod β) : Cod β where
 enc _ := ⟨#[]⟩
 dec s := if s.size = 0 then some c.zero else none
 ok v := v = c.zero
 zero := c.zero
 cap := 0
 there v h := by subst h; rfl
 back s v h := by
  split at h
  · rename_i q
    injection h with h
    exact ⟨h.symm, (empty_of s q).symm⟩
  · cases h
 none_ := rfl
 small v h := Nat.le_refl 0
theorem lstV_small {most : Nat} {it : Cod (List Int)} {hm : most * (2 + it.cap) ≤ 65535} {hi : it.cap ≤ 65535} (v : ValN) (h : (lstV most it hm hi).ok v) : ((lstV most it hm hi).enc v).size ≤ most * (2 + it.cap) := by
 obtain ⟨l, rfl, h1, h2⟩ := h
 show (encT (l.map it.enc)).size ≤ _
 unfold encT
 split
 · rw [mkB_size]
   have q := bytsT_capped (l.map it.enc) it.cap (fun s hs => by
    obtain ⟨x, hx, rfl⟩ := List.mem_map.1 hs
    exact it.small x (h2 x hx))
   rw [List.length_map] at q
   exact Nat.le_trans q (Nat.mul_le_mul_right _ h1)
 · exact Nat.zero_le _
def Caps {β : Type} : List (Cod β) → List Nat → Prop
 | [], [] => True
 | c :: cs, b :: bs => (∀ v, c.ok v → (c.enc v).size ≤ b) ∧ Caps cs bs
 | _, _ => False
theorem attrsG_caps {β : Type} : ∀ (cs : List (Cod β)) (bs : List Nat) (vs : List β) (k : Nat), Caps cs bs → okG cs vs → (bytsA (attrsG k cs vs)).length ≤ (bs.map fun b => 3 + b).sum
 | [], [], [], _, _, _ => by simp [attrsG, bytsA]
 | c :: cs, b :: bs, v :: vs, k, hc, h => by
   have q := attrsG_caps cs bs vs (k + 1) hc.2 h.2
   have r := hc.1 v h.1
   unfold attrsG
   rw [List.map_cons, List.sum_cons]
   split
   · omega
   · rw [bytsA_cons, List.length_append, bytA_length]
     show 3 + (c.enc v).size + _ ≤ _
     omega
 | [], _ :: _, _, _, hc, _ => hc.elim
 | _ :: _, [], _, _, hc, _ => hc.elim
 | [], [], _ :: _, _, _, h => h.elim
 | _ :: _, _ :: _, [], _, _, h => h.elim
theorem encG_caps {β : Type} {cs : List (Cod β)} {bs : List Nat} (hc : Caps cs bs) (hb : (bs.map fun b => 3 + b).sum ≤ 65535) {vs : List β} (h : okG cs vs) : (encG cs vs).size ≤ 65535 := by
 unfold encG encA
 split
 · rw [mkB_size]
   exact Nat.le_trans (attrsG_caps cs bs vs 1 hc h) hb
 · exact Nat.zero_le _
theorem csKind_small (k : Nat) (vs : List ValN) (h : okG (csKind k) vs) : (encG (csKind k) vs).size ≤ 65535 := by
 match k with
 | 0 => exact encG_caps (cs := csNode) (bs := [8, 8, 8, 8, 8, 8, 8, 8, 32 * (2 + cArm.cap)]) ⟨nI.small, nI.small, nI.small, nI.small, nI.small, nI.small, nI.small, nI.small, lstV_small, trivial⟩ (by decide) h
 | 1 => exact encG_caps (cs := csField) (bs := [8, 8, 8, 8, 8]) ⟨nI.small, nB.small, nI.small, nI.small, nI.small, trivial⟩ (by decide) h
 | 2 => exact encG_caps (cs := csTable) (bs := [8, 8, 4 * (2 + cKey.cap), 8, 8]) ⟨nI.small, nB.small, lstV_small, nI.small, nI.small, trivial⟩ (by decide) h
 | 3 => exact encG_caps (cs := csEntry) (bs := [8, 32, 32, 8, 8, 8, 4 * (2 + cArg.cap), 8, 8, 8, 8]) ⟨nI.small, tK.small, tK.small, nI.small, nI.small, nI.small, lstV_small, nL.small, nL.small, nU.small, nT.small, trivial⟩ (by decide) h
 | 4 => exact encG_caps (cs := csBlock) (bs := [8, 32 * (2 + cInstr.cap)]) ⟨nI.small, lstV_small, trivial⟩ (by decide) h
 | 5 => exact encG_caps (cs := csGroup) (bs := [8, 8, 8, 16 * (2 + cBucket.cap)]) ⟨nI.small, nB.small, nI.small, lstV_small, trivial⟩ (by decide) h
 | 6 => exact encG_caps (cs := csMeter) (bs := [8, 8, 8]) ⟨nI.small, nL.small, nL.small, trivial⟩ (by decide) h
 | k + 7 => exact encG_caps (cs := csRegs) (bs := [8, 8]) ⟨nI.small, nI.small, trivial⟩ (by decide) h
def hasL : Nat → List Nat
 | 2 | 44 => [6]
 | 3 | 4 => [8]
 | 6 => [2, 6]
 | 9 => [2, 3]
 | 10 => [3]
 | 11 => [10]
 | 13 => [11]
 | 15 => [12]
 | 17 | 18 => [13]
 | 19 => [14]
 | 21 => [15]
 | 23 => [16]
 | 25 => [17]
 | 12 | 14 | 16 | 20 | 22 | 24 | 26 | 27 | 28 | 29 | 34 | 45 => [1]
 | 30 => [1, 6, 7]
 | 31 => [1, 2, 6]
 | 32 | 33 => [1, 2, 9]
 | 35 | 46 => [1, 6]
 | 37 => [9]
 | 38 => [4]
 | 39 => [2, 4, 6]
 | 40 => [4, 8]
 | 41 => [4, 5, 8]
 | 42 => [5, 13]
 | _ => []
def lWords : Cod ValN := lstV 128 cArg (by decide) (by decide)
def partC (most : Nat) : Nat → Cod PartN
 | 0 | 1 | 2 | 3 | 4 => oneP nI
 | 5 | 6 => oneP nU
 | 7 => oneP (txtV most)
 | 8 => oneP lWords
 | i => objP (csKind (i - 9)) (csKind_cap _) (by have := csKind_length (i - 9); omega) (csKind_small _)
def csM (most : Nat) (k : Nat) : List (Cod PartN) := (List.range 17).map fun i => if (i + 1) ∈ hasL k then partC most i else noneP (partC most i)
theorem csM_length (most k : Nat) : (csM most k).length = 17 := by simp [csM]
theorem csM_at (most k i : Nat) (hi : i < 17) : (csM most k)[i]? = some (if (i + 1) ∈ hasL k then partC most i else noneP (partC most i)) := by
 simp [csM, hi]
theorem partC_cap (most i : Nat) (hm : most ≤ 65535) : (partC most i).cap ≤ 65535 := by
 match i with
 | 0 | 1 | 2 | 3 | 4 | 5 | 6 => exact (by decide : 8 ≤ 65535)
 | 7 => exact hm
 | 8 => exact Nat.le_refl 65535
 | i + 9 => exact Nat.le_refl 65535
theorem csM_cap (most k : Nat) (hm : most ≤ 65535) : ∀ c ∈ csM most k, c.cap ≤ 65535 := by
 intro c hc
 obtain ⟨i, _, rfl⟩ := List.mem_map.1 hc
 split
 · exact partC_cap most i hm
 · exact Nat.zero_le _
abbrev topD : Nat := 9223372036854775807
def zeroP : List PartN := (List.range 17).map fun i => (partC 65535 i).zero
theorem partC_zero (most i : Nat) : (partC most i).zero = (partC 65535 i).zero := by
 match i with
 | 0 | 1 | 2 | 3 | 4 | 5 | 6 | 7 | 8 => rfl
 | i + 9 => rfl
theorem zeroG_csM (most k : Nat) : zeroG (csM most k) = zeroP := by
 unfold zeroG csM zeroP
 rw [List.map_map]
 apply List.map_congr_left
 intro i _
 simp only [Function.comp_apply]
 split
 · exact partC_zero most i
 · exact partC_zero most i
def headB (k x : Nat) : List UInt8 := [UInt8.ofNat k, UInt8.ofNat (x / 16777216), UInt8.ofNat (x / 65536), UInt8.ofNat (x / 256), UInt8.ofNat x]
theorem headB_length (k x : Nat) : (headB k x).length = 5 := rfl
def MayM (k : Nat) (ps : List PartN) : Prop := (1 ≤ k ∧ k ≤ 46) ∧ okG (csM topD k) ps
def bodyM (k x : Nat) (ps : List PartN) : List UInt8 := headB k x ++ bytsA (attrsG 1 (csM topD k) ps)
def EncM (k x : Nat) (ps : List PartN) (T : ByteArray) (r : Nat) : Prop :=
 (MayM k ps ∧ (bodyM k x ps).length ≤ 16384 ∧ T = mkB (bodyM k x ps) ∧ r = 0) ∨
 (MayM k ps ∧ 16384 < (bodyM k x ps).length ∧ T = ⟨#[]⟩ ∧ r = 5) ∨
 (¬ MayM k ps ∧ T = ⟨#[]⟩ ∧ r = 3)
def decM (s : List UInt8) : (Nat × Nat × List PartN) × Nat :=
 if s.length < 5 then ((0, 0, zeroP), 4) else if 16384 < s.length then ((0, 0, zeroP), 5) else
 let k := (s.headD 0).toNat
 if k < 1 ∨ 46 < k then ((0, 0, zeroP), 15) else
 if (decG (csM 65535 k) (s.drop 5)).2 = 0 then ((k, readB ((s.drop 1).take 4), (decG (csM 65535 k) (s.drop 5)).1), 0) else ((0, 0, zeroP), (decG (csM 65535 k) (s.drop 5)).2)
theorem okG_iff {β : Type} : ∀ (cs : List (Cod β)) (vs : List β), okG cs vs ↔ vs.length = cs.length ∧ ∀ (i : Nat) (c : Cod β) (v : β), cs[i]? = some c → vs[i]? = some v → c.ok v
 | [], [] => by simp [okG]
 | [], _ :: _ => by simp [okG]
 | _ :: _, [] => by simp [okG]
 | c :: cs, v :: vs => by
   show c.ok v ∧ okG cs vs ↔ _
   rw [okG_iff cs vs]
   constructor
   · rintro ⟨h1, h2, h3⟩
     refine ⟨by simp [h2], fun i d u e1 e2 => ?_⟩
     match i, e1, e2 with
     | 0, e1, e2 => injection e1 with e1; injection e2 with e2; subst e1 e2; exact h1
     | i + 1, e1, e2 => exact h3 i d u e1 e2
   · rintro ⟨h2, h3⟩
     exact ⟨h3 0 c v rfl rfl, by simpa using h2, fun i d u e1 e2 => h3 (i + 1) d u e1 e2⟩
theorem attrsG_congr {β : Type} : ∀ (cs ds : List (Cod β)) (vs : List β) (k : Nat), cs.map Cod.enc = ds.map Cod.enc → attrsG k cs vs = attrsG k ds vs
 | [], [], _, _, _ => rfl
 | [], _ :: _, _, _, h => by simp at h
 | _ :: _, [], _, _, h => by simp at h
 | c :: cs, d :: ds, [], _, _ => by simp [attrsG]
 | c :: cs, d :: ds, v :: vs, k, h => by
   simp only [List.map_cons, List.cons.injEq] at h
   unfold attrsG
   rw [h.1, attrsG_congr cs ds vs (k + 1) h.2]
theorem partC_enc (most i : Nat) : (partC most i).enc = (partC 65535 i).enc := by
 match i with
 | 0 | 1 | 2 | 3 | 4 | 5 | 6 | 7 | 8 => rfl
 | i + 9 => rfl
theorem csM_enc (most k : Nat) : (csM most k).map Cod.enc = (csM 65535 k).map Cod.enc := by
 unfold csM
 rw [List.map_map, List.map_map]
 apply List.map_congr_left
 intro i _
 simp only [Function.comp_apply]
 split
 · exact partC_enc most i
 · rfl
theorem attrsG_csM (most k : Nat) (ps : List PartN) : attrsG 1 (csM most k) ps = attrsG 1 (csM 65535 k) ps := attrsG_congr _ _ _ _ (csM_enc most k)
theorem attrsG_enc_le {β : Type} : ∀ (cs : List (Cod β)) (vs : List β) (k i : Nat) (c : Cod β) (v : β), cs[i]? = some c → vs[i]? = some v → (c.enc v).size ≤ (bytsA (attrsG k cs vs)).length
 | [], _, _, i, _, _, h, _ => by simp at h
 | _ :: _, [], _, i, _, _, _, h => by simp at h
 | c :: cs, v :: vs, k, i, d, u, h1, h2 => by
   unfold attrsG
   match i, h1, h2 with
   | 0, h1, h2 =>
     injection h1 with h1; injection h2 with h2; subst h1 h2
     split
     · omega
     · rw [bytsA_cons, List.length_append, bytA_length]
       show _ ≤ 3 + (c.enc v).size + _
       omega
   | i + 1, h1, h2 =>
     have q := attrsG_enc_le cs vs (k + 1) i d u h1 h2
     split
     · exact q
     · rw [bytsA_cons, List.length_append]
       omega
theorem partC_ok_up (i : Nat) (p : PartN) (h : (partC 65535 i).ok p) : (partC topD i).ok p := by
 match i with
 | 0 | 1 | 2 | 3 | 4 | 5 | 6 | 8 => exact h
 | 7 => obtain ⟨v, rfl, s, rfl, hs⟩ := h; exact ⟨_, rfl, s, rfl, by show s.size ≤ 9223372036854775807; omega⟩
 | i + 9 => exact h
theorem partC_ok_down (i : Nat) (p : PartN) (h : (partC topD i).ok p) (hs : ((partC topD i).enc p).size ≤ 65535) : (partC 65535 i).ok p := by
 match i with
 | 0 | 1 | 2 | 3 | 4 | 5 | 6 | 8 => exact h
 | 7 => obtain ⟨v, rfl, s, rfl, _⟩ := h; exact ⟨_, rfl, s, rfl, hs⟩
 | i + 9 => exact h
theorem csM_ok_up {k : Nat} {ps : List PartN} (h : okG (csM 65535 k) ps) : okG (csM topD k) ps := by
 rw [okG_iff] at h ⊢
 refine ⟨by rw [h.1, csM_length, csM_length], fun i c v e1 e2 => ?_⟩
 have hi : i < 17 := by have := (List.getElem?_eq_some_iff.1 e1).1; rwa [csM_length] at this
 have q := h.2 i _ v (csM_at 65535 k i hi) e2
 rw [csM_at topD k i hi] at e1
 injection e1 with e1
 subst e1
 split
 · rename_i c0; rw [if_pos c0] at q; exact partC_ok_up i v q
 · rename_i c0; rw [if_neg c0] at q; exact q.trans (partC_zero topD i).symm
theorem csM_ok_down {k : Nat} {ps : List PartN} (h : okG (csM topD k) ps) (hs : (bytsA (attrsG 1 (csM topD k) ps)).length ≤ 65535) : okG (csM 65535 k) ps := by
 rw [okG_iff] at h ⊢
 refine ⟨by rw [h.1, csM_length, csM_length], fun i c v e1 e2 => ?_⟩
 have hi : i < 17 := by have := (List.getElem?_eq_some_iff.1 e1).1; rwa [csM_length] at this
 have q := h.2 i _ v (csM_at topD k i hi) e2
 have l := attrsG_enc_le (csM topD k) ps 1 i _ v (csM_at topD k i hi) e2
 rw [csM_at 65535 k i hi] at e1
 injection e1 with e1
 subst e1
 split
 · rename_i c0; rw [if_pos c0] at q l; exact partC_ok_down i v q (Nat.le_trans l hs)
 · rename_i c0; rw [if_neg c0] at q; exact q.trans (partC_zero topD i)
theorem readB4 (x : Nat) (h : x < 4294967296) : readB [UInt8.ofNat (x / 16777216), UInt8.ofNat (x / 65536), UInt8.ofNat (x / 256), UInt8.ofNat x] = x := by
 simp only [readB, List.foldl_cons, List.foldl_nil, UInt8.toNat_ofNat']
 omega
theorem headB_read (a b c d e : UInt8) : headB a.toNat (readB [b, c, d, e]) = [a, b, c, d, e] := by
 have hb := b.toNat_lt; have hc := c.toNat_lt; have hd := d.toNat_lt; have he := e.toNat_lt
 have q : readB [b, c, d, e] = ((b.toNat * 256 + c.toNat) * 256 + d.toNat) * 256 + e.toNat := by simp [readB]
 unfold headB
 rw [q]
 congr 1
 · exact UInt8.ofNat_toNat
 · refine List.cons_eq_cons.2 ⟨?_, List.cons_eq_cons.2 ⟨?_, List.cons_eq_cons.2 ⟨?_, List.cons_eq_cons.2 ⟨?_, rfl⟩⟩⟩⟩ <;>
   · apply UInt8.toNat.inj
     rw [UInt8.toNat_ofNat']
     omega
theorem decM_enc {k x : Nat} {ps : List PartN} (h : MayM k ps) (hx : x < 4294967296) (hl : (bodyM k x ps).length ≤ 16384) : decM (bodyM k x ps) = ((k, x, ps), 0) := by
 have hl2 : (bytsA (attrsG 1 (csM topD k) ps)).length ≤ 16379 := by
  have : (bodyM k x ps).length = 5 + (bytsA (attrsG 1 (csM topD k) ps)).length := by unfold bodyM; rw [List.length_append, headB_length]
  omega
 have hok := csM_ok_down h.2 (by omega)
 have hcap := csM_cap 65535 k (by omega)
 have hd := decG_enc (csM 65535 k) ps hok hcap (by rw [csM_length]; omega)
 rw [encG_bytes _ _ hok hcap, mkB_data] at hd
 have e : (bodyM k x ps).drop 5 = bytsA (attrsG 1 (csM 65535 k) ps) := by rw [← attrsG_csM topD]; rfl
 have e0 : ((bodyM k x ps).headD 0).toNat = k := by
  show (UInt8.ofNat k).toNat = k
  rw [UInt8.toNat_ofNat']; have := h.1; omega
 have e1 : readB (((bodyM k x ps).drop 1).take 4) = x := readB4 x hx
 have l5 : ¬ (bodyM k x ps).length < 5 := by unfold bodyM; rw [List.length_append, headB_length]; omega
 unfold decM
 rw [if_neg l5, if_neg (by omega)]
 simp only [e0]
 rw [if_neg (by have := h.1; omega), e, hd, e1]
 rfl
theorem decM_inv {s : List UInt8} {k x : Nat} {ps : List PartN} (h : decM s = ((k, x, ps), 0)) : MayM k ps ∧ x < 4294967296 ∧ bodyM k x ps = s ∧ s.length ≤ 16384 := by
 unfold decM at h
 split at h
 · cases h
 rename_i l5
 split at h
 · cases h
 rename_i l6
 simp only [] at h
 split at h
 · cases h
 rename_i hk
 split at h
 · rename_i hd
   simp only [Prod.mk.injEq] at h
   obtain ⟨⟨rfl, rfl, rfl⟩, -⟩ := h
   obtain ⟨h1, h2⟩ := decG_inv (csM 65535 (s.headD 0).toNat) (mkB (s.drop 5)) _ (Prod.ext rfl (by rw [mkB_data]; exact hd))
   rw [mkB_data] at h1 h2
   have hcap := csM_cap 65535 (s.headD 0).toNat (by omega)
   rw [encG_bytes _ _ h1 hcap] at h2
   have h3 := mkB_inj h2
   match s, l5 with
   | a :: b :: c :: d :: e :: s, _ =>
     refine ⟨⟨by omega, csM_ok_up h1⟩, ?_, ?_, by omega⟩
     · have q : readB [b, c, d, e] < 256 ^ 4 := readB_lt [b, c, d, e]
       rw [show (256 : Nat) ^ 4 = 4294967296 by decide] at q
       exact q
     · unfold bodyM
       rw [attrsG_csM topD, h3]
       show headB a.toNat (readB [b, c, d, e]) ++ s = _
       rw [headB_read]; rfl
   | [], l5 => exact absurd (show ([] : List UInt8).length < 5 by decide) l5
   | [_], l5 => exact absurd (show 1 < 5 by decide) l5
   | [_, _], l5 => exact absurd (show 2 < 5 by decide) l5
   | [_, _, _], l5 => exact absurd (show 3 < 5 by decide) l5
   | [_, _, _, _], l5 => exact absurd (show 4 < 5 by decide) l5
 · rename_i hd
   simp only [Prod.mk.injEq] at h
   exact absurd h.2 hd
end Go.Proofs.YtoopdhgmdjienaaGreatDoor
namespace Go.Proofs.YtoopdhgmdjienaaGreatDoor
set_option linter.unusedVariables false
open Go.RowKit
structure WBut (F : List Nat) (W w : World) : Prop where
 os : w.os = W.os
 out : w.output = W.output
 size : W.heap.size ≤ w.heap.size
 heap : ∀ i, i < W.heap.size → i ∉ F → w.heap[i]? = W.heap[i]?
theorem Wider.but {W w : World} (h : Wider W w) (F : List Nat) : WBut F W w := ⟨h.1.1, h.1.2.1, h.2, fun i hi _ => wheap h hi⟩
theorem WBut.trans {F G : List Nat} {a b c : World} (h : WBut F a b) (k : WBut G b c) (hs : ∀ i ∈ G, i ∈ F ∨ a.heap.size ≤ i) : WBut F a c :=
 ⟨k.os.trans h.os, k.out.trans h.out, Nat.le_trans h.size k.size, fun i hi hF => by
  rw [k.heap i (Nat.lt_of_lt_of_le hi h.size) (fun m => by rcases hs i m with m | m; exact hF m; omega), h.heap i hi hF]⟩
theorem WBut.thenW {F : List Nat} {a b c : World} (h : WBut F a b) (k : Wider b c) : WBut F a c := h.trans (k.but F) (fun i m => .inl m)
theorem wider_but {F : List Nat} {a b c : World} (h : Wider a b) (k : WBut F b c) : WBut F a c := (h.but F).trans k (fun i m => .inl m)
theorem wider_of {W w : World} (ho : w.os = W.os) (hu : w.output = W.output) (hz : W.heap.size ≤ w.heap.size) (hh : ∀ i, i < W.heap.size → w.heap[i]? = W.heap[i]?) : Wider W w := by
 refine ⟨⟨ho, hu, fun i hi => ?_⟩, hz⟩
 rw [hh i hi]
 cases W.heap[i]? with
 | none => rfl
 | some o =>
   cases o with
   | cells c t fr => exact ⟨rfl, rfl, rfl, fun _ _ => rfl⟩
   | map es cl => exact .inr ⟨rfl, rfl⟩
   | _ => rfl
theorem WBut.wider {F : List Nat} {V W w : World} (g : Wider V W) (h : WBut F W w) (hs : ∀ i ∈ F, V.heap.size ≤ i) : Wider V w :=
 wider_of (h.os.trans g.1.1) (h.out.trans g.1.2.1) (Nat.le_trans g.2 h.size) fun i hi => by
  rw [h.heap i (Nat.lt_of_lt_of_le hi g.2) (fun m => by have := hs i m; omega), wheap g hi]
theorem cell_heap {W w : World} {a : Addr} (h : w.heap[a.block]? = W.heap[a.block]?) : w.cell? a = W.cell? a := by unfold World.cell?; rw [h]
theorem frozen_heap {W w : World} {a : Addr} (h : w.heap[a.block]? = W.heap[a.block]?) : w.frozen? a = W.frozen? a := by unfold World.frozen?; rw [h]
theorem setCell_but (W : World) (a : Addr) (v : Value) : WBut [a.block] W (W.setCell a v) where
 os := rfl
 out := rfl
 size := by simp [World.setCell]
 heap i hi hF := by
  simp only [World.setCell, Array.getElem?_modify]
  rw [if_neg (fun e => hF (by rw [e]; simp))]
abbrev Thing := List Nat × (World → Prop)
def Thing.Stable (r : Thing) : Prop := ∀ W w, r.2 W → (∀ i ∈ r.1, w.heap[i]? = W.heap[i]?) → r.2 w
structure Own (V w : World) (L : List Thing) : Prop where
 holds : ∀ r ∈ L, r.2 w
 new : ∀ r ∈ L, ∀ i ∈ r.1, V.heap.size ≤ i ∧ i < w.heap.size
 apart : L.Pairwise fun r q => ∀ i ∈ r.1, i ∉ q.1
 stable : ∀ r ∈ L, r.Stable
 wider : Wider V w
theorem Own.nil {V w : World} (h : Wider V w) : Own V w [] := ⟨by simp, by simp, .nil, by simp, h⟩
theorem Own.quiet {V W w : World} {L : List Thing} (h : Own V W L) (g : Wider W w) : Own V w L where
 holds r m := h.stable r m W w (h.holds r m) fun i hi => wheap g (h.new r m i hi).2
 new r m i hi := ⟨(h.new r m i hi).1, Nat.lt_of_lt_of_le (h.new r m i hi).2 g.2⟩
 apart := h.apart
 stable := h.stable
 wider := h.wider.trans g
theorem Own.drop {V w : World} {r : Thing} {L : List Thing} (h : Own V w (r :: L)) : Own V w L :=
 ⟨fun q m => h.holds q (.tail _ m), fun q m => h.new q (.tail _ m), (List.pairwise_cons.1 h.apart).2, fun q m => h.stable q (.tail _ m), h.wider⟩
theorem Own.head {V w : World} {r : Thing} {L : List Thing} (h : Own V w (r :: L)) : r.2 w := h.holds r (.head _)
theorem Own.swap {V w : World} {r q : Thing} {L : List Thing} (h : Own V w (r :: q :: L)) : Own V w (q :: r :: L) where
 holds x m := h.holds x (by simp only [List.mem_cons] at m ⊢; rcases m with m | m | m <;> simp [m])
 new x m := h.new x (by simp only [List.mem_cons] at m ⊢; rcases m with m | m | m <;> simp [m])
 apart := by
  have k := List.pairwise_cons.1 h.apart
  have k2 := List.pairwise_cons.1 k.2
  refine List.pairwise_cons.2 ⟨fun x m i hi hx => ?_, List.pairwise_cons.2 ⟨fun x m => k.1 x (.tail _ m), k2.2⟩⟩
  rcases List.mem_cons.1 m with rfl | m
  · exact k.1 q (.head _) i hx hi
  · exact k2.1 x m i hi hx
 stable x m := h.stable x (by simp only [List.mem_cons] at m ⊢; rcases m with m | m | m <;> simp [m])
 wider := h.wider
theorem Own.second {V w : World} {r q : Thing} {L : List Thing} (h : Own V w (r :: q :: L)) : q.2 w := h.drop.head
theorem Own.turn {V W w : World} {r s : Thing} {L : List Thing} (h : Own V W (r :: L)) (g : WBut r.1 W w) (hs : s.2 w) (hst : s.Stable) (hn : ∀ i ∈ s.1, (i ∈ r.1 ∨ W.heap.size ≤ i) ∧ i < w.heap.size) : Own V w (s :: L) where
 holds x m := by
  rcases List.mem_cons.1 m with rfl | m
  · exact hs
  · refine h.stable x (.tail _ m) W w (h.holds x (.tail _ m)) fun i hi => g.heap i (h.new x (.tail _ m) i hi).2 fun hr => ?_
    exact (List.pairwise_cons.1 h.apart).1 x m i hr hi
 new x m i hi := by
  rcases List.mem_cons.1 m with rfl | m
  · refine ⟨?_, (hn i hi).2⟩
    rcases (hn i hi).1 with k | k
    · exact (h.new r (.head _) i k).1
    · have := h.wider.2; omega
  · exact ⟨(h.new x (.tail _ m) i hi).1, Nat.lt_of_lt_of_le (h.new x (.tail _ m) i hi).2 g.size⟩
 apart := by
  have k := List.pairwise_cons.1 h.apart
  refine List.pairwise_cons.2 ⟨fun x m i hi hx => ?_, k.2⟩
  rcases (hn i hi).1 with c | c
  · exact k.1 x m i c hx
  · have := (h.new x (.tail _ m) i hx).2; omega
 stable x m := by
  rcases List.mem_cons.1 m with rfl | m
  · exact hst
  · exact h.stable x (.tail _ m)
 wider := g.wider h.wider fun i hi => (h.new r (.head _) i hi).1
theorem Own.make {V W w : World} {s : Thing} {L : List Thing} (h : Own V W L) (g : Wider W w) (hs : s.2 w) (hst : s.Stable) (hn : ∀ i ∈ s.1, W.heap.size ≤ i ∧ i < w.heap.size) : Own V w (s :: L) where
 holds x m := by
  rcases List.mem_cons.1 m with rfl | m
  · exact hs
  · exact (h.quiet g).holds x m
 new x m i hi := by
  rcases List.mem_cons.1 m with rfl | m
  · exact ⟨Nat.le_trans h.wider.2 (hn i hi).1, (hn i hi).2⟩
  · exact (h.quiet g).new x m i hi
 apart := List.pairwise_cons.2 ⟨fun x m i hi hx => by have := (h.new x m i hx).2; have := (hn i hi).1; omega, h.apart⟩
 stable x m := by
  rcases List.mem_cons.1 m with rfl | m
  · exact hst
  · exact h.stable x m
 wider := h.wider.trans g
theorem grownBy_but {W w : World} {row : Option Nat} (g : W.grownBy w row) : WBut row.toList W w :=
 ⟨g.os, g.output, g.size, fun i hi hF => g.block i hi fun e => hF (by rw [← e]; simp)⟩
abbrev rowT (e : TypeId) (size : Nat) (v : Value) (n : Nat) (xs : List Value) : Thing := (v.ownBlock.toList, fun w => w.ownsRow 0 e size v n xs)
theorem ownsRow_heap {W w : World} {b : Nat} {e : TypeId} {size n : Nat} {v : Value} {xs : List Value} (h : W.ownsRow b e size v n xs) (k : ∀ i ∈ v.ownBlock.toList, w.heap[i]? = W.heap[i]?) : w.ownsRow b e size v n xs := by
 refine ⟨h.1, ?_⟩
 rcases h.2 with q | ⟨g, cap, cur, rfl, hb, hg, r⟩
 · exact .inl q
 · exact .inr ⟨g, cap, cur, rfl, hb, (k g (by simp [Value.ownBlock])).trans hg, r⟩
theorem rowT_stable (e : TypeId) (size n : Nat) (v : Value) (xs : List Value) : (rowT e size v n xs).Stable := fun W w h k => ownsRow_heap h k
theorem ownsRow_less {w : World} {b c : Nat} {e : TypeId} {size n : Nat} {v : Value} {xs : List Value} (h : w.ownsRow b e size v n xs) (k : c ≤ b) : w.ownsRow c e size v n xs := by
 refine ⟨h.1, ?_⟩
 rcases h.2 with q | ⟨g, cap, cur, rfl, hb, r⟩
 · exact .inl q
 · exact .inr ⟨g, cap, cur, rfl, Nat.le_trans k hb, r⟩
theorem Own.row {V W w : World} {L : List Thing} (h : Own V W L) (g : Wider W w) {e : TypeId} {size n : Nat} {v : Value} {xs : List Value} (r : w.ownsRow W.heap.size e size v n xs) : Own V w (rowT e size v n xs :: L) :=
 h.make g (ownsRow_less r (Nat.zero_le _)) (rowT_stable _ _ _ _ _) fun i hi => r.lt i (by simpa using hi)
theorem wider_append {W wr w1 : World} {e : TypeId} {size n : Nat} {v : Value} {xs : List Value} (g : Wider W wr) (h : wr.ownsRow W.heap.size e size v n xs) (k : wr.grownBy w1 v.ownBlock) : Wider W w1 :=
 (grownBy_but k).wider g fun i hi => (h.lt i (by simpa using hi)).1
theorem wider_appendA {W wr w1 : World} {e : TypeId} {size n : Nat} {v : Value} {xs : List Value} {o : Obj} (g : Wider W wr) (h : wr.ownsRow W.heap.size e size v n xs) (k : (wr.alloc o).grownBy w1 v.ownBlock) : Wider W w1 :=
 wider_append (g.alloc o) (h.alloc o) k
theorem wider_appendAd {W wr w1 : World} {e : TypeId} {size n : Nat} {v : Value} {xs : List Value} {o : Obj} (g : Wider W wr) (h : wr.ownsRow W.heap.size e size v n xs) (k : (wr.alloc o).drew.grownBy w1 v.ownBlock) : Wider W w1 :=
 wider_append (wr := (wr.alloc o).drew) (g.alloc o) (h.alloc o) k
def cellA (a : AtN) : List Value := [.int .u8 (a.t : Int), .string a.v]
def cellsA (l : List AtN) : List Value := l.flatMap cellA
theorem cellsA_nil : cellsA [] = [] := rfl
theorem cellsA_cons (a : AtN) (l : List AtN) : cellsA (a :: l) = .int .u8 (a.t : Int) :: .string a.v :: cellsA l := rfl
theorem cellsA_snoc (l : List AtN) (a : AtN) : cellsA (l ++ [a]) = cellsA l ++ [.int .u8 (a.t : Int), .string a.v] := by simp [cellsA, cellA]
theorem cellsA_length (l : List AtN) : (cellsA l).length = l.length * 2 := by
 induction l with
 | nil => rfl
 | cons a l ih => rw [cellsA_cons]; simp only [List.length_cons]; rw [ih]; omega
theorem cellsA_at : ∀ (l : List AtN) (j : Nat) (x : AtN), l[j]? = some x → (cellsA l)[j * 2]? = some (.int .u8 (x.t : Int)) ∧ (cellsA l)[j * 2 + 1]? = some (.string x.v) := by
 intro l
 induction l with
 | nil => intro j x h; simp at h
 | cons a l ih =>
   intro j x h
   rw [cellsA_cons]
   cases j with
   | zero => simp at h; subst h; simp
   | succ j =>
     have := ih j x (by simpa using h)
     have e : (j + 1) * 2 = j * 2 + 1 + 1 := by omega
     rw [e]
     simpa using this
theorem cellsA_one (l : List AtN) : ∀ u ∈ cellsA l, u.oneCell' = true := by
 induction l with
 | nil => simp [cellsA_nil]
 | cons a l ih =>
   intro u hu
   rw [cellsA_cons] at hu
   simp only [List.mem_cons] at hu
   rcases hu with rfl | rfl | hu
   · rfl
   · rfl
   · exact ih u hu
structure AtAt (w : World) (a : Addr) (x : AtN) : Prop where
 c0 : w.cell? a = some (.int .u8 (x.t : Int))
 c1 : w.cell? (a.add 1) = some (.string x.v)
theorem AtAt.on {W w : World} {a : Addr} {x : AtN} (h : AtAt W a x) (g : Wider W w) : AtAt w a x := ⟨wkeep g h.c0, wkeep g h.c1⟩
theorem AtAt.flat {w : World} {a : Addr} {x : AtN} (h : AtAt w a x) : w.cell? ⟨a.block, a.off + 1, none⟩ = some (.string x.v) := by
 have e : a.add 1 = ⟨a.block, a.off + 1, none⟩ := by unfold Addr.add; simp
 rw [← e]; exact h.c1
structure AtsAt (w : World) (A : Option Addr) (l : List AtN) : Prop where
 none_ : A = none → l = []
 cell : ∀ a, A = some a → ∀ j x, l[j]? = some x → AtAt w (a.add (j * 2)) x
theorem AtsAt.on {W w : World} {A : Option Addr} {l : List AtN} (h : AtsAt W A l) (g : Wider W w) : AtsAt w A l :=
 ⟨h.none_, fun a e j s hs => (h.cell a e j s hs).on g⟩
theorem addr_add2 (a : Addr) (i j : Nat) : (a.add i).add j = a.add (i + j) := by
 unfold Addr.add
 by_cases hi : i = 0 <;> by_cases hj : j = 0 <;> simp [hi, hj, Nat.add_assoc]
theorem atsAt_own {w : World} {b : Nat} {e : TypeId} {v : Value} {n : Nat} {l : List AtN} (h : w.ownsRow b e 2 v n (cellsA l)) : ∃ A cap, v = .slice A n cap ∧ AtsAt w A l ∧ l.length = n := by
 have hl := h.1
 rw [cellsA_length] at hl
 have hn : l.length = n := by omega
 have hh := h
 rcases h.2 with ⟨rfl, rfl⟩ | ⟨g, cap, cur, rfl, _⟩
 · have e0 : l = [] := List.eq_nil_of_length_eq_zero hn
   subst e0
   exact ⟨none, 0, rfl, ⟨fun _ => rfl, fun a e => by cases e⟩, hn⟩
 · refine ⟨_, cap, rfl, ⟨(fun e => by cases e), fun a e j x hx => ?_⟩, hn⟩
   obtain rfl : (⟨g, 0, none⟩ : Addr) = a := by injection e
   obtain ⟨q0, q1⟩ := cellsA_at l j x hx
   refine ⟨hh.cells rfl _ _ q0, ?_⟩
   rw [addr_add2]
   exact hh.cells rfl _ _ q1
def cellsS (l : List ByteArray) : List Value := l.map Value.string
theorem cellsS_length (l : List ByteArray) : (cellsS l).length = l.length := by simp [cellsS]
theorem cellsS_snoc (l : List ByteArray) (s : ByteArray) : cellsS (l ++ [s]) = cellsS l ++ [.string s] := by simp [cellsS]
theorem strsAt_own {w : World} {b : Nat} {e : TypeId} {v : Value} {n : Nat} {l : List ByteArray} (h : w.ownsRow b e 1 v n (cellsS l)) : ∃ A cap, v = .slice A n cap ∧ StrsAt w A l ∧ l.length = n := by
 have hl := h.1
 rw [cellsS_length] at hl
 have hn : l.length = n := by omega
 have hh := h
 rcases h.2 with ⟨rfl, rfl⟩ | ⟨g, cap, cur, rfl, _⟩
 · have e0 : l = [] := List.eq_nil_of_length_eq_zero hn
   subst e0
   exact ⟨none, 0, rfl, StrsAt.nil w, hn⟩
 · refine ⟨_, cap, rfl, ⟨(fun e => by cases e), fun a e j x hx => ?_⟩, hn⟩
   obtain rfl : (⟨g, 0, none⟩ : Addr) = a := by injection e
   exact hh.cells rfl _ _ (by simp [cellsS, hx])
theorem take_next {α : Type} (l : List α) (k : Nat) (x : α) (h : l[k]? = some x) : l.take (k + 1) = l.take k ++ [x] := by
 obtain ⟨hk, rfl⟩ := List.getElem?_eq_some_iff.1 h
 rw [List.take_succ_eq_append_getElem hk]
theorem next_some {α : Type} (l : List α) (k : Nat) (h : k < l.length) : ∃ x, l[k]? = some x := ⟨l[k], List.getElem?_eq_getElem h⟩
theorem run_append_any {P : Program} (w : World) (base : Nat) (t ty e : TypeId) (i : TypeInfo) (z : Value) (size bytes : Nat) (ht : P.underlying t = some (.slice e)) (hi : P.info? e = some i) (hz : i.zero = some z)
 (hsize : i.size = size) (hby : i.bytes = bytes) (hzs : z.cells.size = size) (hsz : 0 < size)
 (v : Value) (n : Nat) (xs : List Value) (hown : w.ownsRow base e size v n xs)
 (A : Option Addr) (m c : Nat) (news : List Value) (hl : news.length = m * size) (h0 : A = none → m = 0) (hnews : ∀ a, A = some a → ∀ j u, news[j]? = some u → w.cell? (a.add j) = some u) (h1 : ∀ u ∈ news, u.oneCell' = true)
 (h63 : n + m ≤ maxLen) (hbytes : (n + m) * bytes ≤ 140737488355328) (hbase : base ≤ w.heap.size) :
 ∃ v' w', (Builtin.append_ #[t, t] ty #[v, .slice A m c]).run P w = .ok v' w' ∧ w'.ownsRow base e size v' (n + m) (xs ++ news) ∧ w.grownBy w' v.ownBlock := by
 cases A with
 | none =>
   obtain rfl := h0 rfl
   have hnil : news = [] := List.eq_nil_of_length_eq_zero (by simpa using hl)
   subst hnil
   refine ⟨v, w, ?_, by simpa using hown, ⟨rfl, rfl, rfl, Nat.le_refl _, fun _ _ _ => rfl⟩⟩
   rcases hown.2 with ⟨rfl, rfl⟩ | ⟨g, cap, cur, rfl, _, _, hnc, _⟩
   · simp [Builtin.append_, run_underlying ht, sizeOf, typeInfo, hi, Builtin.lenOf, Builtin.firstCells]
   · simp [Builtin.append_, run_underlying ht, sizeOf, typeInfo, hi, Builtin.lenOf, Builtin.firstCells, hnc, storeCells]
 | some a =>
   obtain ⟨v', w', r, o, g, _⟩ := run_append_own (P := P) w base t ty e i z size bytes ht hi hz hsize hby hzs hsz v n xs hown a m c news hl (hnews a rfl) h1 h63 hbytes hbase
   exact ⟨v', w', r, o, g⟩
theorem ownsRow_base {w : World} {b c : Nat} {e : TypeId} {size n : Nat} {v : Value} {xs : List Value} (h : w.ownsRow b e size v n xs) (k : ∀ i ∈ v.ownBlock.toList, c ≤ i) : w.ownsRow c e size v n xs := by
 refine ⟨h.1, ?_⟩
 rcases h.2 with q | ⟨g, cap, cur, rfl, hb, r⟩
 · exact .inl q
 · exact .inr ⟨g, cap, cur, rfl, k g (by simp [Value.ownBlock]), r⟩
theorem ownsRow_shape {w : World} {b : Nat} {e : TypeId} {size n : Nat} {v : Value} {xs : List Value} (h : w.ownsRow b e size v n xs) : ∃ B c2, v = .slice B n c2 := by
 rcases h.2 with ⟨rfl, q⟩ | ⟨g, cap, cur, rfl, _⟩
 · exact ⟨none, 0, by rw [q]⟩
 · exact ⟨_, _, rfl⟩
theorem Own.empty {V w : World} {L : List Thing} (H : Own V w L) (e : TypeId) (size : Nat) : Own V (w.alloc (.cells #[] e)) (rowT e size (.slice (some ⟨w.heap.size, 0, none⟩) 0 0) 0 [] :: L) :=
 H.row ((Wider.refl w).alloc _) (World.ownsRow_lit w #[] 0 (Nat.le_refl _) (by simp [maxLen]) (by simp))
end Go.Proofs.YtoopdhgmdjienaaGreatDoor
