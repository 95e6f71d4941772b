/- Package tern: bits that no mask has: the mathematics of the law TernUnder; a row of bytes that a call owns. -/
import Derived.Test.YtjjgdnaejeejlaaUMathB
import Derived.Test.YtjjgdnaejeejlaaSMake
namespace Go.Proofs.Ytjjgdnaejeejlaa
set_option linter.unusedVariables false
open Go.ChangeShapes Go.WideShapes Go.ChangeAt Go.RowKit Go.Joins

theorem bv_u8 (a : UInt8) : (BitVec.ofInt 8 (a.toNat : Int)).toNat = a.toNat := by
  have ha := UInt8.toNat_lt a
  rw [BitVec.ofInt_natCast, BitVec.toNat_ofNat]; exact Nat.mod_eq_of_lt (by omega)
theorem wrap_u8 (a : UInt8) : IntKind.u8.wrap (a.toNat : Int) = (a.toNat : Int) := by
  have ha := UInt8.toNat_lt a
  simp [IntKind.wrap, IntKind.bits, IntKind.signed]; omega
theorem or_u8 (a b : UInt8) : bits .or .u8 (a.toNat : Int) (b.toNat : Int) = ((a ||| b).toNat : Int) := by
  show IntKind.u8.wrap ((BitVec.ofInt 8 (a.toNat : Int) ||| BitVec.ofInt 8 (b.toNat : Int)).toNat : Int) = _
  rw [BitVec.toNat_or, bv_u8, bv_u8, ← UInt8.toNat_or, wrap_u8]
theorem xor_u8 (a b : UInt8) : bits .xor .u8 (a.toNat : Int) (b.toNat : Int) = ((a ^^^ b).toNat : Int) := by
  show IntKind.u8.wrap ((BitVec.ofInt 8 (a.toNat : Int) ^^^ BitVec.ofInt 8 (b.toNat : Int)).toNat : Int) = _
  rw [BitVec.toNat_xor, bv_u8, bv_u8, ← UInt8.toNat_xor, wrap_u8]
theorem andNot_u8 (a b : UInt8) : bits .andNot .u8 (a.toNat : Int) (b.toNat : Int) = ((a &&& ~~~b).toNat : Int) := by
  show IntKind.u8.wrap ((BitVec.ofInt 8 (a.toNat : Int) &&& ~~~BitVec.ofInt 8 (b.toNat : Int)).toNat : Int) = _
  rw [BitVec.toNat_and, BitVec.toNat_not, bv_u8, bv_u8]
  have e : (~~~b).toNat = 2 ^ 8 - 1 - b.toNat := by rw [UInt8.toNat_not]
  rw [← e, ← UInt8.toNat_and, wrap_u8]
theorem mask_bits (k b o m : UInt8) : (k ^^^ (b &&& ~~~(m ||| o))) &&& m = k &&& m := by
  apply UInt8.toBitVec_inj.1
  rw [UInt8.toBitVec_and, UInt8.toBitVec_xor, UInt8.toBitVec_and, UInt8.toBitVec_not, UInt8.toBitVec_or, UInt8.toBitVec_and]
  apply BitVec.eq_of_getLsbD_eq
  intro i hi
  simp only [BitVec.getLsbD_and, BitVec.getLsbD_xor, BitVec.getLsbD_not, BitVec.getLsbD_or, hi]
  cases k.toBitVec.getLsbD i <;> cases b.toBitVec.getLsbD i <;> cases o.toBitVec.getLsbD i <;> cases m.toBitVec.getLsbD i <;> rfl
def getb (s : ByteArray) (j : Nat) : UInt8 := s.data.toList.getD j 0
theorem getb_at (s : ByteArray) (j : Nat) (h : j < s.size) : s[j] = getb s j := by
  unfold getb
  rw [List.getD_eq_getElem?_getD, List.getElem?_eq_getElem (by simpa using h)]
  rfl
def stepO (i : Nat) (acc : UInt8) (x : ItN) : UInt8 := if i < x.mask.size then acc ||| getb x.mask i else acc
def orU (i : Nat) (L : List ItN) : UInt8 := L.foldl (stepO i) 0
theorem orU_next (i : Nat) (L : List ItN) (k : Nat) (x : ItN) (h : L[k]? = some x) : orU i (L.take (k + 1)) = stepO i (orU i (L.take k)) x := by
  obtain ⟨hk, rfl⟩ := List.getElem?_eq_some_iff.1 h
  unfold orU
  rw [List.take_succ_eq_append_getElem hk, List.foldl_append]
  rfl
theorem or_keep (i : Nat) (m : UInt8) : ∀ (L : List ItN) (acc : UInt8), m ||| acc = acc → m ||| L.foldl (stepO i) acc = L.foldl (stepO i) acc
  | [], acc, h => h
  | x :: L, acc, h => by
    rw [List.foldl_cons]
    refine or_keep i m L _ ?_
    unfold stepO
    split
    · rw [← UInt8.or_assoc, h]
    · exact h
theorem or_has {i : Nat} {x : ItN} (hi : i < x.mask.size) : ∀ (L : List ItN) (acc : UInt8), x ∈ L → getb x.mask i ||| L.foldl (stepO i) acc = L.foldl (stepO i) acc
  | [], acc, h => by cases h
  | y :: L, acc, h => by
    rw [List.foldl_cons]
    rcases List.mem_cons.1 h with rfl | h
    · refine or_keep i _ L _ ?_
      unfold stepO
      rw [if_pos hi, UInt8.or_comm acc, ← UInt8.or_assoc, UInt8.or_self]
    · exact or_has hi L _ h
def bufU (key bs : ByteArray) (L : List ItN) (i j : Nat) : UInt8 := if j < i then getb key j ^^^ (getb bs j &&& ~~~orU j L) else getb key j
def outU (key bs : ByteArray) (L : List ItN) (i : Nat) : ByteArray := mkB ((List.range key.size).map (bufU key bs L i))
theorem outU_size (key bs : ByteArray) (L : List ItN) (i : Nat) : (outU key bs L i).size = key.size := by unfold outU; rw [mkB_size]; simp
theorem outU_getb (key bs : ByteArray) (L : List ItN) (i j : Nat) (h : j < key.size) : getb (outU key bs L i) j = bufU key bs L i j := by
  unfold getb outU
  rw [mkB_data, List.getD_eq_getElem?_getD, List.getElem?_map, List.getElem?_range h]
  rfl
theorem outU_match (key bs : ByteArray) (L : List ItN) (i : Nat) {x : ItN} (hx : x ∈ L) : MatchN x key ↔ MatchN x (outU key bs L i) := by
  unfold MatchN
  rw [outU_size]
  by_cases hs : key.size = x.mask.size
  · have e : underB (outU key bs L i) x.mask = underB key x.mask := by
      unfold underB
      rw [outU_size]
      congr 1
      refine List.map_congr_left fun j hj => ?_
      have hj := List.mem_range.1 hj
      show getb (outU key bs L i) j &&& getb x.mask j = getb key j &&& getb x.mask j
      rw [outU_getb _ _ _ _ _ hj]
      unfold bufU
      split
      · have h := or_has (show j < x.mask.size by omega) L 0 hx
        have h2 : orU j L = getb x.mask j ||| orU j L := h.symm
        rw [h2]
        exact mask_bits _ _ _ _
      · rfl
    rw [e]
  · simp [hs]
theorem outU_nums (key bs : ByteArray) (L : List ItN) (i n : Nat) (hn : key.size = n) : strOfNums ((List.range n).map fun j => ((bufU key bs L i j).toNat : Int)) = outU key bs L i := by
  subst hn
  unfold outU
  rw [← nums_mkB, List.map_map]
  rfl
/-! ### A row of bytes that a call owns -/
abbrev btsT (B n : Nat) (v : Nat → Int) : Thing := ([B], fun w => Bts w B n v)
theorem bts_stable (B n : Nat) (v : Nat → Int) : (btsT B n v).Stable := by
  rintro W w ⟨h1, h2⟩ k
  have e := k B (by simp)
  refine ⟨fun j hj => ?_, fun j hj => ?_⟩
  · have := h1 j hj
    unfold World.cell? at this ⊢
    rw [e]; exact this
  · have := h2 j hj
    unfold World.frozen? at this ⊢
    rw [e]; exact this
theorem SetIs.bytes {V w w' : World} {R : List Thing} {S : Nat} {L : List ItN} {N B n : Nat} {v : Nat → Int} (h : SetIs V w R S L N) (g : Wider w w') (hb : Bts w' B n v) (h1 : w.heap.size ≤ B) (h2 : B < w'.heap.size) : SetIs V w' (btsT B n v :: R) S L N := by
  obtain ⟨s, e, H, hl⟩ := h
  refine ⟨s, e, (H.make (s := btsT B n v) g hb (bts_stable _ _ _) fun i hi => ?_).perm (List.perm_middle (l₁ := s.things)).symm, hl⟩
  obtain rfl : i = B := by simpa using hi
  exact ⟨h1, h2⟩
theorem SetIs.putByte {V w : World} {R : List Thing} {S : Nat} {L : List ItN} {N B n k : Nat} {v u : Nat → Int} {y : Int} (h : SetIs V w (btsT B n v :: R) S L N) (hk : k < n) (e : ∀ j, j < n → u j = if j = k then y else v j) :
    SetIs V (w.setCell ⟨B, k, none⟩ (.int .u8 y)) (btsT B n u :: R) S L N := by
  obtain ⟨s, e1, H, hl⟩ := h
  have H1 := H.perm (List.perm_middle (l₁ := s.things))
  have l : (w.setCell ⟨B, k, none⟩ (.int .u8 y)).heap.size = w.heap.size := by simp [World.setCell]
  refine ⟨s, e1, (H1.turn (s := btsT B n u) (setCell_but w ⟨B, k, none⟩ _) (H1.head.put hk e) (bts_stable _ _ _) fun i hi => ⟨.inl hi, by rw [l]; exact (H1.new _ (.head _) i hi).2⟩).perm (List.perm_middle (l₁ := s.things)).symm, hl⟩
theorem SetIs.dropR {V w : World} {R : List Thing} {t : Thing} {S : Nat} {L : List ItN} {N : Nat} (h : SetIs V w (t :: R) S L N) : SetIs V w R S L N := by
  obtain ⟨s, e, H, hl⟩ := h
  exact ⟨s, e, (H.perm (List.perm_middle (l₁ := s.things))).drop, hl⟩
theorem slooks_w {V w : World} {R : List Thing} {S : Nat} {L : List ItN} {N : Nat} (h : SetIs V w R S L N) (hN : N < 99990) {key : ByteArray} (hk : key.size < 1000000) {n : Int} (hn : (looksF key L : Int) = n) :
    Calls Try.prog 19 #[.pointer (some ⟨S, 0, none⟩), .string key] w fun e w' => e = .returned (.int .i64 n) ∧ Wider w w' := by
  obtain ⟨s, rfl, H, hl⟩ := h
  subst hn
  exact ulooks_o hl hN hk H (fun t ht => List.mem_append_left _ ht) rfl

end Go.Proofs.Ytjjgdnaejeejlaa
