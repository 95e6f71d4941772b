/- Keys of bits stand to each other as their bits do. No program is in sight. -/
import Derived.Test.YtjnccpbedffijaaJKey
import Derived.Test.YtjnccpbedffijaaJMathB
namespace Go.Proofs.Ytjnccpbedffijaa
set_option linter.unusedVariables false

theorem bytesLess_at : ∀ (j : Nat) (a b : List UInt8) (x y : UInt8), (∀ i, i < j → ∃ z, a[i]? = some z ∧ b[i]? = some z) → a[j]? = some x → b[j]? = some y → x < y → Op.bytesLess a b = true
  | 0, a :: l, b :: m, x, y, h, ha, hb, hxy => by
    simp at ha hb
    subst ha hb
    unfold Op.bytesLess
    simp [hxy]
  | j + 1, a :: l, b :: m, x, y, h, ha, hb, hxy => by
    obtain ⟨z, h1, h2⟩ := h 0 (by omega)
    simp at h1 h2
    subst h1 h2
    have ih := bytesLess_at j l m x y (fun i hi => by have := h (i + 1) (by omega); simpa using this) (by simpa using ha) (by simpa using hb) hxy
    unfold Op.bytesLess
    simp [ih]
  | _, [], _, x, y, h, ha, hb, hxy => by simp at ha
  | _, _ :: _, [], x, y, h, ha, hb, hxy => by simp at hb
theorem fldN_byte (s : ByteArray) (j : Nat) : fldN s (8 * j) 8 = byteS s j := by
  rw [← byteB_text]
  unfold byteB
  simp only [fldN, Nat.add_zero]
  omega
theorem byteS_get (s : ByteArray) (j : Nat) (h : j < s.size) : ∃ x : UInt8, s.data.toList[j]? = some x ∧ x.toNat = byteS s j := by
  have h' : j < s.data.toList.length := by simpa using h
  refine ⟨s.data.toList[j], List.getElem?_eq_getElem h', ?_⟩
  unfold byteS
  rw [List.getD_eq_getElem?_getD, List.getElem?_eq_getElem h']; rfl
/-- The first bit that differs says which text is the less one. -/
theorem less_bit {s t : ByteArray} {i : Nat} (hs : i < 8 * s.size) (ht : i < 8 * t.size) (he : ∀ k, k < i → bitS s k = bitS t k) (h0 : bitS s i = 0) (h1 : bitS t i = 1) : Op.bytesLess s.toList t.toList = true := by
  rw [ByteArray.toList_eq, ByteArray.toList_eq]
  obtain ⟨x, hx, hx2⟩ := byteS_get s (i / 8) (by omega)
  obtain ⟨y, hy, hy2⟩ := byteS_get t (i / 8) (by omega)
  refine bytesLess_at (i / 8) _ _ x y (fun j hj => ?_) hx hy ?_
  · obtain ⟨a, ha, ha2⟩ := byteS_get s j (by omega)
    obtain ⟨b, hb, hb2⟩ := byteS_get t j (by omega)
    have e : a = b := by
      apply UInt8.toNat_inj.1
      rw [ha2, hb2, ← fldN_byte, ← fldN_byte]
      exact fldN_congr 8 fun k hk => he _ (by omega)
    exact ⟨a, ha, by rw [e]; exact hb⟩
  · rw [UInt8.lt_iff_toNat_lt, hx2, hy2, ← fldN_byte, ← fldN_byte]
    obtain ⟨r, hr⟩ : ∃ r, i % 8 = r := ⟨_, rfl⟩
    obtain ⟨d, hd⟩ : ∃ d, 7 - r = d := ⟨_, rfl⟩
    have e8 : 8 = r + (1 + d) := by omega
    have ei : 8 * (i / 8) + r = i := by omega
    have split : ∀ u : ByteArray, fldN u (8 * (i / 8)) 8 = fldN u (8 * (i / 8)) r * 2 ^ (1 + d) + (bitS u i * 2 ^ d + fldN u (i + 1) d) := fun u => by
      have q1 := fldN_split u (8 * (i / 8)) r (1 + d)
      have q2 := fldN_split u i 1 d
      have q3 : fldN u i 1 = bitS u i := by show 2 * 0 + bitS u (i + 0) = _; simp
      rw [ei] at q1
      rw [q3] at q2
      rw [← e8] at q1
      rw [q1, q2]
    rw [split s, split t, h0, h1]
    have e1 : fldN s (8 * (i / 8)) r = fldN t (8 * (i / 8)) r := fldN_congr r fun k hk => he _ (by omega)
    rw [e1]
    have := fldN_lt s (i + 1) d
    omega
/-- How one row of bits stands ahead of another one. -/
theorem ahead_cases {a b : List Bool} (h : Tr.Ahead a b) : (∃ c s, b = a ++ c :: s) ∨ ∃ c s u, a = c ++ false :: s ∧ b = c ++ true :: u := by
  induction h with
  | short b bs => exact .inl ⟨b, bs, rfl⟩
  | less bs cs => exact .inr ⟨[], bs, cs, rfl, rfl⟩
  | more b h ih =>
    rcases ih with ⟨c, s, e⟩ | ⟨c, s, u, e1, e2⟩
    · exact .inl ⟨c, s, by rw [e]; rfl⟩
    · exact .inr ⟨b :: c, s, u, by rw [e1]; rfl, by rw [e2]; rfl⟩
theorem key_bits {bs : List Bool} (h : bs.length ≤ 256) : (bitL (keyJ bs)).take bs.length = bs := (keyJ_is h).take
theorem keyJ_inj {a b : List Bool} (ha : a.length ≤ 256) (hb : b.length ≤ 256) (h : keyJ a = keyJ b) (hl : a.length = b.length) : a = b :=
  (keyJ_is ha).bits (h ▸ keyJ_is hb) hl
/-- What TrieRow asks of two rows of bits, one ahead of the other. -/
structure RowsJ (q p : List Bool) (b1 b2 : Bool) : Prop where
  e1 : decide ((bitL (keyJ p)).take q.length = q) = b1
  e2 : decide ((bitL (keyJ q)).take p.length = p) = b2
  ok : b1 = true ∨ (b1 = false ∧ b2 = false ∧ Op.bytesLess (keyJ q).toList (keyJ p).toList = true ∧ keyJ q ≠ keyJ p)
  same : keyJ q = keyJ p → q.length < p.length
theorem rows_ahead {q p : List Bool} (hq : q.length ≤ 256) (hp : p.length ≤ 256) (h : Tr.Ahead q p) : ∃ b1 b2, RowsJ q p b1 b2 := by
  refine ⟨_, _, rfl, rfl, ?_, ?_⟩
  · rcases ahead_cases h with ⟨c, s, e⟩ | ⟨c, s, u, e1, e2⟩
    · left
      refine decide_eq_true ?_
      have k := key_bits hp
      have e3 : (bitL (keyJ p)).take q.length = ((bitL (keyJ p)).take p.length).take q.length := by rw [List.take_take, Nat.min_eq_left (by rw [e]; simp)]
      rw [e3, k, e, List.take_left]
    · right
      have kp := keyJ_is hp
      have kq := keyJ_is hq
      have lp : c.length < p.length := by rw [e2]; simp
      have lq : c.length < q.length := by rw [e1]; simp
      have bq := kq.at_ c.length lq
      have bp := kp.at_ c.length lp
      have gq : q[c.length]? = some false := by rw [e1]; simp
      have gp : p[c.length]? = some true := by rw [e2]; simp
      rw [gq] at bq
      rw [gp] at bp
      have z0 : bitS (keyJ q) c.length = 0 := by
        have := bitS_le (keyJ q) c.length
        injection bq with bq
        have := of_decide_eq_false bq.symm
        omega
      have z1 : bitS (keyJ p) c.length = 1 := by
        injection bp with bp
        exact of_decide_eq_true bp.symm
      have sq := kq.long
      have sp := kp.long
      refine ⟨decide_eq_false fun f => ?_, decide_eq_false fun f => ?_, ?_, fun f => ?_⟩
      · have := congrArg (fun l => l[c.length]?) f
        simp only [List.getElem?_take, if_pos lq] at this
        rw [bitL_at _ _ (by omega), gq, z1] at this
        simp at this
      · have := congrArg (fun l => l[c.length]?) f
        simp only [List.getElem?_take, if_pos lp] at this
        rw [bitL_at _ _ (by omega), gp, z0] at this
        simp at this
      · refine less_bit (by omega) (by omega) (fun k hk => ?_) z0 z1
        rw [kq.bit k (by omega), kp.bit k (by omega), e1, e2]
        rw [List.getD_eq_getElem?_getD, List.getD_eq_getElem?_getD, List.getElem?_append_left hk, List.getElem?_append_left hk]
      · rw [f, z1] at z0; cases z0
  · intro f
    rcases ahead_cases h with ⟨c, s, e⟩ | ⟨c, s, u, e1, e2⟩
    · rw [e]; simp
    · exfalso
      have kp := keyJ_is hp
      have kq := keyJ_is hq
      have bq := kq.at_ c.length (by rw [e1]; simp)
      have bp := kp.at_ c.length (by rw [e2]; simp)
      have gq : q[c.length]? = some false := by rw [e1]; simp
      have gp : p[c.length]? = some true := by rw [e2]; simp
      rw [gq, f] at bq
      rw [gp] at bp
      injection bq with bq
      injection bp with bp
      rw [← bq] at bp; cases bp
end Go.Proofs.Ytjnccpbedffijaa
