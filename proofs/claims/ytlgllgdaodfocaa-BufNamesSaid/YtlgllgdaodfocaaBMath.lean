/- Plain laws on texts into which bytes are put, and out of which they are taken. No program is in sight. -/
import Derived.Test.YtlgllgdaodfocaaFGet
import Derived.Test.YtlgllgdaodfocaaSMath
import Derived.Test.YtlgllgdaodfocaaStrs
import Derived.Lib.Strings
namespace Go.Proofs.Ytlgllgdaodfocaa
set_option linter.unusedVariables false

/-- So many bytes of 0. -/
def zerosB (n : Nat) : ByteArray := ⟨(List.replicate n (0 : UInt8)).toArray⟩
theorem zerosB_size (n : Nat) : (zerosB n).size = n := by
  have e : (zerosB n).size = (zerosB n).data.toList.length := by simp
  rw [e]; unfold zerosB; simp
theorem zerosB_conv (n : Nat) : strOfNums ((List.range n).map fun _ => (0 : Int)) = zerosB n := by
  apply ba_ext
  rw [strOfNums_data, List.map_map]
  unfold zerosB
  apply List.ext_getElem
  · simp
  · intro i h1 h2
    rw [List.getElem_map]
    simp only [Function.comp, List.getElem_replicate]; rfl
theorem byteS_zeros (n j : Nat) : byteS (zerosB n) j = 0 := by
  unfold byteS zerosB
  rw [List.getD_eq_getElem?_getD, List.getElem?_replicate]
  split <;> rfl
theorem byteS_out (s : ByteArray) (j : Nat) (h : s.size ≤ j) : byteS s j = 0 := by
  unfold byteS
  rw [List.getD_eq_getElem?_getD, List.getElem?_eq_none (by simpa using h)]; rfl
theorem byteS_app (a b : ByteArray) (j : Nat) : byteS (a ++ b) j = if j < a.size then byteS a j else byteS b (j - a.size) := by
  unfold byteS
  rw [ByteArray.data_append, Array.toList_append, List.getD_eq_getElem?_getD, List.getElem?_append]
  have e : a.data.toList.length = a.size := by simp
  rw [e]
  split <;> simp [List.getD_eq_getElem?_getD]
theorem byteS_ext (s : ByteArray) (a b j : Nat) (h : b ≤ s.size) : byteS (s.extract a b) j = if a + j < b then byteS s (a + j) else 0 := by
  unfold byteS
  rw [Lib.extract_data, List.getD_eq_getElem?_getD, List.getElem?_take, List.getElem?_drop]
  by_cases c : a + j < b
  · rw [if_pos c, if_pos (by omega)]; simp [List.getD_eq_getElem?_getD]
  · rw [if_neg c, if_neg (by omega)]; rfl
theorem text_ext {s t : ByteArray} (h : s.size = t.size) (k : ∀ j, j < s.size → byteS s j = byteS t j) : s = t := by
  rw [← textB_self s, ← textB_self t, h]
  apply textB_congr
  intro p hp
  unfold bitS
  rw [k (p / 8) (by omega)]
theorem ext_size (s : ByteArray) (a b : Nat) (h : b ≤ s.size) : (s.extract a b).size = b - a := by simp; omega
/-- Bits of texts that are alike, so many bytes apart. -/
theorem bitS_move {s t : ByteArray} {p q : Nat} (hm : p % 8 = q % 8) (h : byteS s (p / 8) = byteS t (q / 8)) : bitS s p = bitS t q := by
  unfold bitS; rw [h, hm]

/-- n bytes of 0 put in at a. -/
def insT (s : ByteArray) (a n : Nat) : ByteArray := (s.extract 0 a ++ zerosB n) ++ s.extract a s.size
theorem insT_size (s : ByteArray) (a n : Nat) (h : a ≤ s.size) : (insT s a n).size = s.size + n := by
  unfold insT
  rw [ByteArray.size_append, ByteArray.size_append, zerosB_size, ext_size s 0 a h, ext_size s a _ (Nat.le_refl _)]; omega
theorem byteS_ins (s : ByteArray) (a n j : Nat) (h : a ≤ s.size) : byteS (insT s a n) j = if j < a then byteS s j else if j < a + n then 0 else byteS s (j - n) := by
  unfold insT
  rw [byteS_app, ByteArray.size_append, zerosB_size, ext_size s 0 a h, Nat.sub_zero, byteS_app, ext_size s 0 a h, Nat.sub_zero, byteS_zeros, byteS_ext s 0 a _ h, byteS_ext s a _ _ (Nat.le_refl _)]
  by_cases c : j < a
  · rw [if_pos (by omega), if_pos c, if_pos (by omega), if_pos c, Nat.zero_add]
  · by_cases d : j < a + n
    · rw [if_pos d, if_neg c, if_neg c, if_pos d]
    · rw [if_neg d, if_neg c, if_neg d]
      by_cases e : a + (j - (a + n)) < s.size
      · rw [if_pos e]; congr 1; omega
      · rw [if_neg e, byteS_out s _ (by omega)]
/-- n bytes taken out at a. -/
def delT (s : ByteArray) (a n : Nat) : ByteArray := s.extract 0 a ++ s.extract (a + n) s.size
theorem delT_size (s : ByteArray) (a n : Nat) (h : a + n ≤ s.size) : (delT s a n).size = s.size - n := by
  unfold delT
  rw [ByteArray.size_append, ext_size s 0 a (by omega), ext_size s _ _ (Nat.le_refl _)]; omega
theorem byteS_del (s : ByteArray) (a n j : Nat) (h : a + n ≤ s.size) : byteS (delT s a n) j = if j < a then byteS s j else byteS s (j + n) := by
  unfold delT
  rw [byteS_app, ext_size s 0 a (by omega), Nat.sub_zero, byteS_ext s 0 a _ (by omega), byteS_ext s _ _ _ (Nat.le_refl _)]
  by_cases c : j < a
  · rw [if_pos c, if_pos c, if_pos (by omega), Nat.zero_add]
  · rw [if_neg c, if_neg c]
    by_cases e : a + n + (j - a) < s.size
    · rw [if_pos e]; congr 1; omega
    · rw [if_neg e, byteS_out s _ (by omega)]

theorem ins_ins (s : ByteArray) (k x y z : Nat) (hk : k ≤ s.size) (hz : z ≤ x) : insT (insT s k x) (k + z) y = insT s k (x + y) := by
  have e1 := insT_size s k x hk
  refine text_ext ?_ fun j hj => ?_
  · rw [insT_size _ _ _ (by omega), e1, insT_size s k _ hk]; omega
  · rw [byteS_ins _ _ _ _ (by omega), byteS_ins s k x _ hk, byteS_ins s k x _ hk, byteS_ins s k (x + y) _ hk]
    by_cases c : j < k
    · rw [if_pos (by omega), if_pos c, if_pos c]
    · by_cases d : j < k + z
      · rw [if_pos d, if_neg c, if_pos (by omega), if_neg c, if_pos (by omega)]
      · by_cases e : j < k + z + y
        · rw [if_neg d, if_pos e, if_neg c, if_pos (by omega)]
        · rw [if_neg d, if_neg e, if_neg (by omega), if_neg c]
          by_cases f : j < k + (x + y)
          · rw [if_pos (by omega), if_pos f]
          · rw [if_neg (by omega), if_neg f]; congr 1; omega
theorem del_del (s : ByteArray) (k x y : Nat) (h : k + x + y ≤ s.size) : delT (delT s k x) k y = delT s k (x + y) := by
  have e1 := delT_size s k x (by omega)
  refine text_ext ?_ fun j hj => ?_
  · rw [delT_size _ _ _ (by omega), e1, delT_size s k _ (by omega)]; omega
  · rw [byteS_del _ _ _ _ (by omega), byteS_del s k x _ (by omega), byteS_del s k x _ (by omega), byteS_del s k (x + y) _ (by omega)]
    by_cases c : j < k
    · rw [if_pos c, if_pos c, if_pos c]
    · rw [if_neg c, if_neg (by omega), if_neg c]; congr 1; omega
theorem del_ins (s : ByteArray) (k m : Nat) (hk : k ≤ s.size) : delT (insT s k m) k m = s := by
  have e1 := insT_size s k m hk
  refine text_ext ?_ fun j hj => ?_
  · rw [delT_size _ _ _ (by omega), e1]; omega
  · rw [byteS_del _ _ _ _ (by omega), byteS_ins s k m _ hk, byteS_ins s k m _ hk]
    by_cases c : j < k
    · rw [if_pos c, if_pos c]
    · rw [if_neg c, if_neg (by omega), if_neg (by omega)]; congr 1; omega

/-! ### What each call answers -/
def insE (z : Nat) (at_ n : Int) : Int := if at_ < 0 ∨ n < 0 then 1 else if (z : Int) < at_ then 4 else if 9216 - (z : Int) < n then 5 else 0
def cutE (z : Nat) (at_ n : Int) : Int := if at_ < 0 ∨ n < 0 then 1 else if (z : Int) < at_ ∨ (z : Int) - at_ < n then 4 else 0
structure InsR (s : ByteArray) (at_ n : Int) (T : ByteArray) (r : Int) : Prop where
  err : insE s.size at_ n = r
  ok : r = 0 → insT s at_.toNat n.toNat = T
  bad : r ≠ 0 → T = s
structure DelR (s : ByteArray) (at_ n : Int) (T : ByteArray) (r : Int) : Prop where
  err : cutE s.size at_ n = r
  ok : r = 0 → delT s at_.toNat n.toNat = T
  bad : r ≠ 0 → T = s
structure BSumR (s : ByteArray) (at_ n : Int) (v : Nat) (r : Int) : Prop where
  err : cutE s.size at_ n = r
  ok : r = 0 → sumS (s.extract at_.toNat (at_.toNat + n.toNat)).data.toList = v
  bad : r ≠ 0 → v = 0
structure BPutR (s : ByteArray) (off width : Int) (x : BitVec 128) (T : ByteArray) (r : Int) : Prop where
  err : errF s.size off width = r
  ok : r = 0 → putT s off.toNat width.toNat x = T
  bad : r ≠ 0 → T = s
theorem insR_ex (s : ByteArray) (at_ n : Int) : ∃ T r, InsR s at_ n T r := by
  by_cases e : insE s.size at_ n = 0
  · exact ⟨_, 0, e, fun _ => rfl, fun k => absurd rfl k⟩
  · exact ⟨_, _, rfl, fun k => absurd k e, fun _ => rfl⟩
theorem delR_ex (s : ByteArray) (at_ n : Int) : ∃ T r, DelR s at_ n T r := by
  by_cases e : cutE s.size at_ n = 0
  · exact ⟨_, 0, e, fun _ => rfl, fun k => absurd rfl k⟩
  · exact ⟨_, _, rfl, fun k => absurd k e, fun _ => rfl⟩
theorem bsumR_ex (s : ByteArray) (at_ n : Int) : ∃ v r, BSumR s at_ n v r := by
  by_cases e : cutE s.size at_ n = 0
  · exact ⟨_, 0, e, fun _ => rfl, fun k => absurd rfl k⟩
  · exact ⟨_, _, rfl, fun k => absurd k e, fun _ => rfl⟩
theorem bputR_ex (s : ByteArray) (off width : Int) (x : BitVec 128) : ∃ T r, BPutR s off width x T r := by
  by_cases e : errF s.size off width = 0
  · exact ⟨_, 0, e, fun _ => rfl, fun k => absurd rfl k⟩
  · exact ⟨_, _, rfl, fun k => absurd k e, fun _ => rfl⟩
theorem insE_ok {z : Nat} {at_ n : Int} (h : insE z at_ n = 0) : ∃ a m : Nat, at_ = (a : Int) ∧ n = (m : Int) ∧ a ≤ z ∧ z + m ≤ 9216 := by
  unfold insE at h
  split at h
  · cases h
  · split at h
    · cases h
    · split at h
      · cases h
      · exact ⟨at_.toNat, n.toNat, by omega, by omega, by omega, by omega⟩
theorem insE_of {z a m : Nat} (h : a ≤ z) (k : z + m ≤ 9216) : insE z (a : Int) (m : Int) = 0 := by
  unfold insE; rw [if_neg (by omega), if_neg (by omega), if_neg (by omega)]
theorem cutE_ok {z : Nat} {at_ n : Int} (h : cutE z at_ n = 0) : ∃ a m : Nat, at_ = (a : Int) ∧ n = (m : Int) ∧ a + m ≤ z := by
  unfold cutE at h
  split at h
  · cases h
  · split at h
    · cases h
    · exact ⟨at_.toNat, n.toNat, by omega, by omega, by omega⟩
theorem cutE_of {z a m : Nat} (h : a + m ≤ z) : cutE z (a : Int) (m : Int) = 0 := by
  unfold cutE; rw [if_neg (by omega), if_neg (by omega)]
theorem insR_of (s : ByteArray) (a m : Nat) (h : a ≤ s.size) (k : s.size + m ≤ 9216) : InsR s (a : Int) (m : Int) (insT s a m) 0 :=
  ⟨insE_of h k, fun _ => by rw [Int.toNat_natCast, Int.toNat_natCast], fun k => absurd rfl k⟩
theorem delR_of (s : ByteArray) (a m : Nat) (h : a + m ≤ s.size) : DelR s (a : Int) (m : Int) (delT s a m) 0 :=
  ⟨cutE_of h, fun _ => by rw [Int.toNat_natCast, Int.toNat_natCast], fun k => absurd rfl k⟩
theorem bsumR_of (s : ByteArray) (a m : Nat) (h : a + m ≤ s.size) : BSumR s (a : Int) (m : Int) (sumS (s.extract a (a + m)).data.toList) 0 :=
  ⟨cutE_of h, fun _ => by rw [Int.toNat_natCast, Int.toNat_natCast], fun k => absurd rfl k⟩
theorem InsR.size {s T : ByteArray} {at_ n r : Int} (h : InsR s at_ n T r) (hs : s.size ≤ 9216) : T.size ≤ 9216 := by
  by_cases e : r = 0
  · obtain ⟨a, m, rfl, rfl, h1, h2⟩ := insE_ok (h.err.trans e)
    rw [← h.ok e, Int.toNat_natCast, Int.toNat_natCast, insT_size s a m h1]; exact h2
  · rw [h.bad e]; exact hs
theorem DelR.size {s T : ByteArray} {at_ n r : Int} (h : DelR s at_ n T r) : T.size ≤ s.size := by
  by_cases e : r = 0
  · obtain ⟨a, m, rfl, rfl, h1⟩ := cutE_ok (h.err.trans e)
    rw [← h.ok e, Int.toNat_natCast, Int.toNat_natCast, delT_size s a m h1]; omega
  · rw [h.bad e]; exact Nat.le_refl _
theorem BPutR.size {s T : ByteArray} {off width r : Int} {x : BitVec 128} (h : BPutR s off width x T r) : T.size = s.size := by
  by_cases e : r = 0
  · rw [← h.ok e, putT_size]
  · rw [h.bad e]
theorem BSumR.lt {s : ByteArray} {at_ n r : Int} {v : Nat} (h : BSumR s at_ n v r) : v < 65536 := by
  by_cases e : r = 0
  · rw [← h.ok e]; exact sumS_lt _
  · rw [h.bad e]; omega

theorem byteB_move {f g : Nat → Nat} {i j : Nat} (h : ∀ r, r < 8 → f (8 * i + r) = g (8 * j + r)) : byteB f i = byteB g j := by
  have h0 := h 0 (by omega)
  rw [Nat.add_zero, Nat.add_zero] at h0
  unfold byteB
  rw [h0, h 1 (by omega), h 2 (by omega), h 3 (by omega), h 4 (by omega), h 5 (by omega), h 6 (by omega), h 7 (by omega)]
set_option maxHeartbeats 1000000 in
/-- A field put into the bytes that it reaches alone. -/
theorem put_part (s : ByteArray) (off n : Nat) (x : BitVec 128) (h : off + n ≤ 8 * s.size) (hn : 1 ≤ n) :
    (s.extract 0 (off / 8) ++ putT (s.extract (off / 8) ((off + n + 7) / 8)) (off - 8 * (off / 8)) n x) ++ s.extract ((off + n + 7) / 8) s.size = putT s off n x := by
  obtain ⟨a, ha⟩ : ∃ a, off / 8 = a := ⟨_, rfl⟩
  obtain ⟨b, hb⟩ : ∃ b, (off + n + 7) / 8 = b := ⟨_, rfl⟩
  rw [ha, hb]
  have k1 : a < b := by omega
  have k2 : b ≤ s.size := by omega
  have e1 : (s.extract a b).size = b - a := ext_size s a b k2
  have e0 : (s.extract 0 a).size = a := by rw [ext_size s 0 a (by omega)]; omega
  refine text_ext ?_ fun j hj => ?_
  · rw [ByteArray.size_append, ByteArray.size_append, putT_size, putT_size, e1, e0, ext_size s b _ (Nat.le_refl _)]; omega
  · have hz : j < s.size := by
      rw [ByteArray.size_append, ByteArray.size_append, putT_size, e1, e0, ext_size s b _ (Nat.le_refl _)] at hj; omega
    rw [byteS_app, ByteArray.size_append, putT_size, e1, e0, byteS_app, e0]
    have pb : ∀ (t : ByteArray) (o : Nat) (i : Nat), i < t.size → byteS (putT t o n x) i = byteB (putB t o n x n) i := fun t o i hi => byteS_textB _ _ _ (putB_le t o n x n) hi
    rw [pb s off j hz]
    by_cases c : j < a
    · rw [if_pos (by omega), if_pos c, byteS_ext s 0 a _ (by omega), if_pos (by omega), Nat.zero_add, ← byteB_text s j]
      exact byteB_congr fun r hr => by unfold putB; rw [if_neg (by omega)]
    · by_cases d : j < a + (b - a)
      · rw [if_pos d, if_neg c, pb _ _ _ (by rw [e1]; omega)]
        have q : ∀ r, r < 8 → putB (s.extract a b) (off - 8 * a) n x n (8 * (j - a) + r) = putB s off n x n (8 * j + r) := by
          intro r hr
          unfold putB
          by_cases m : off ≤ 8 * j + r ∧ 8 * j + r < off + n
          · have e : off - 8 * a + n - 1 - (8 * (j - a) + r) = off + n - 1 - (8 * j + r) := by omega
            rw [if_pos m, if_pos ⟨by omega, by omega⟩, e]
          · rw [if_neg m, if_neg (by omega)]
            refine bitS_move (by omega) ?_
            rw [show (8 * (j - a) + r) / 8 = j - a by omega, show (8 * j + r) / 8 = j by omega, byteS_ext s a b _ k2, if_pos (by omega)]
            congr 1; omega
        exact byteB_move q
      · rw [if_neg d, byteS_ext s b _ _ (Nat.le_refl _), if_pos (by omega), show b + (j - (a + (b - a))) = j by omega, ← byteB_text s j]
        exact byteB_congr fun r hr => by unfold putB; rw [if_neg (by omega)]

/-! ### Whole bytes -/
theorem low8_bit (Y r : Nat) (hr : r < 8) : Y % 256 / 2 ^ (7 - r) % 2 = Y / 2 ^ (7 - r) % 2 := by
  match r, hr with
  | 0, _ => simp only [Nat.sub_zero, Nat.reducePow]; omega
  | 1, _ => simp only [Nat.reduceSub, Nat.reducePow]; omega
  | 2, _ => simp only [Nat.reduceSub, Nat.reducePow]; omega
  | 3, _ => simp only [Nat.reduceSub, Nat.reducePow]; omega
  | 4, _ => simp only [Nat.reduceSub, Nat.reducePow]; omega
  | 5, _ => simp only [Nat.reduceSub, Nat.reducePow]; omega
  | 6, _ => simp only [Nat.reduceSub, Nat.reducePow]; omega
  | 7, _ => simp only [Nat.reduceSub, Nat.reducePow]; omega
/-- Bytes that were put in. -/
theorem byteS_put (s : ByteArray) (a m : Nat) (x : BitVec 128) (j : Nat) (hj : j < s.size) : byteS (putT s (8 * a) (8 * m) x) j = if a ≤ j ∧ j < a + m then x.toNat / 2 ^ (8 * (a + m - 1 - j)) % 256 else byteS s j := by
  have e := byteS_textB (putB s (8 * a) (8 * m) x (8 * m)) s.size j (putB_le _ _ _ _ _) hj
  unfold putT
  rw [e]
  by_cases c : a ≤ j ∧ j < a + m
  · rw [if_pos c]
    refine byte_ext (byteB_lt _ _ (putB_le _ _ _ _ _)) (Nat.mod_lt _ (by decide)) fun r hr => ?_
    rw [byteB_bit _ _ _ (putB_le _ _ _ _ _) hr, low8_bit _ _ hr, Nat.div_div_eq_div_mul, ← Nat.pow_add]
    unfold putB
    rw [if_pos ⟨by omega, by omega⟩]
    congr 3; omega
  · rw [if_neg c, ← byteB_text s j]
    exact byteB_congr fun r hr => by unfold putB; rw [if_neg (by omega)]
theorem fldN_8 (s : ByteArray) (a : Nat) : fldN s (8 * a) 8 = byteS s a := by
  rw [← byteB_text s a]
  unfold byteB
  simp only [fldN, Nat.add_zero]; omega
theorem fldW_byte (s : ByteArray) (a : Nat) {n : Nat} (h : byteS s a = n) : fldW s (8 * a) 8 = BitVec.ofNat 128 n := by unfold fldW; rw [fldN_8, h]
theorem dlen (s : ByteArray) : s.data.toList.length = s.size := by simp
/-- The sum of a part of even length and of the one behind it. -/
theorem ext_two (s : ByteArray) (k x y : Nat) (h : k + x + y ≤ s.size) : (s.extract k (k + x + y)).data.toList = (s.extract k (k + x)).data.toList ++ (s.extract (k + x) (k + x + y)).data.toList := by
  have e : s.extract k (k + x + y) = s.extract k (k + x) ++ s.extract (k + x) (k + x + y) := by
    refine text_ext ?_ fun j hj => ?_
    · rw [ByteArray.size_append, ext_size _ _ _ h, ext_size _ _ _ (by omega), ext_size _ _ _ h]; omega
    · rw [ext_size _ _ _ h] at hj
      rw [byteS_app, ext_size _ _ _ (by omega), byteS_ext _ _ _ _ h, byteS_ext _ _ _ _ (by omega), byteS_ext _ _ _ _ h, if_pos (by omega)]
      by_cases c : j < k + x - k
      · rw [if_pos c, if_pos (by omega)]
      · rw [if_neg c, if_pos (by omega)]; congr 1; omega
  rw [e, ByteArray.data_append, Array.toList_append]
theorem sum_two (s : ByteArray) (k x y : Nat) (hx : x % 2 = 0) (h : k + x + y ≤ s.size) : oc (sumS (s.extract k (k + x)).data.toList) (sumS (s.extract (k + x) (k + x + y)).data.toList) = sumS (s.extract k (k + x + y)).data.toList := by
  rw [ext_two s k x y h]
  refine (sumS_even _ ?_).symm
  rw [dlen, ext_size _ _ _ (by omega)]; omega
/-- A word put in at an even place. -/
def wordB (w : Nat) : ByteArray := strOfNums [((w / 256 : Nat) : Int), ((w % 256 : Nat) : Int)]
theorem wordB_data (w : Nat) : (wordB w).data.toList = [UInt8.ofNat (w / 256), UInt8.ofNat (w % 256)] := by
  unfold wordB; rw [strOfNums_data]; simp only [List.map_cons, List.map_nil, Int.toNat_natCast]
theorem wordB_0 (w : Nat) : byteS (wordB w) 0 = w / 256 % 256 := by
  unfold byteS; rw [wordB_data]
  simp only [List.getD_cons_zero]
  rw [UInt8.toNat_ofNat']
theorem wordB_1 (w : Nat) : byteS (wordB w) 1 = w % 256 := by
  unfold byteS; rw [wordB_data]
  simp only [List.getD_cons_succ, List.getD_cons_zero]
  rw [UInt8.toNat_ofNat']; omega
theorem word_in_text (s : ByteArray) (k x y w : Nat) (h : k + x + y ≤ s.size) (hw : w < 65536) :
    (putT (insT s (k + x) 2) (8 * (k + x)) 16 (BitVec.ofNat 128 w)).extract k (k + x + y + 2) = (s.extract k (k + x) ++ wordB w) ++ s.extract (k + x) (k + x + y) := by
  have z1 : (insT s (k + x) 2).size = s.size + 2 := insT_size s (k + x) 2 (by omega)
  have z2 : (putT (insT s (k + x) 2) (8 * (k + x)) 16 (BitVec.ofNat 128 w)).size = s.size + 2 := by rw [putT_size, z1]
  have z3 : (wordB w).size = 2 := by unfold wordB; rw [strOfNums_size]; rfl
  have xw : (BitVec.ofNat 128 w).toNat = w := by rw [BitVec.toNat_ofNat]; omega
  refine text_ext ?_ fun j hj => ?_
  · rw [ByteArray.size_append, ByteArray.size_append, z3, ext_size _ _ _ (by omega), ext_size _ _ _ (by omega), ext_size _ _ _ h]; omega
  · rw [ext_size _ _ _ (by omega)] at hj
    rw [byteS_ext _ _ _ _ (by omega), if_pos (by omega)]
    have p := byteS_put (insT s (k + x) 2) (k + x) 2 (BitVec.ofNat 128 w) (k + j) (by omega)
    rw [show 8 * 2 = 16 by omega, xw] at p
    rw [p, byteS_ins _ _ _ _ (by omega), byteS_app, ByteArray.size_append, z3, ext_size _ _ _ (by omega), byteS_app, ext_size _ _ _ (by omega)]
    by_cases c : j < x
    · rw [if_neg (by omega), if_pos (by omega), if_pos (by omega), if_pos (by omega), byteS_ext _ _ _ _ (by omega), if_pos (by omega)]
    · by_cases d : j < x + 2
      · rw [if_pos (by omega), if_pos (by omega), if_neg (by omega)]
        have e : j = x ∨ j = x + 1 := by omega
        rcases e with rfl | rfl
        · rw [show k + j + 2 - 1 - (k + j) = 1 by omega, show j - (k + j - k) = 0 by omega, wordB_0]
        · rw [show k + x + 2 - 1 - (k + (x + 1)) = 0 by omega, show x + 1 - (k + x - k) = 1 by omega, wordB_1, Nat.mul_zero, Nat.pow_zero, Nat.div_one]
      · rw [if_neg (show ¬ (k + x ≤ k + j ∧ k + j < k + x + 2) by omega), if_neg (show ¬ k + j < k + x by omega), if_neg (show ¬ k + j < k + x + 2 by omega), if_neg (show ¬ j < k + x - k + 2 by omega), byteS_ext _ _ _ _ h, if_pos (show k + x + (j - (k + x - k + 2)) < k + x + y by omega)]
        have e : k + x + (j - (k + x - k + 2)) = k + j - 2 := by omega
        rw [e]
theorem sum_word_in (s : ByteArray) (k x y w : Nat) (hx : x % 2 = 0) (h : k + x + y ≤ s.size) (hw : w < 65536) :
    sumS ((putT (insT s (k + x) 2) (8 * (k + x)) 16 (BitVec.ofNat 128 w)).extract k (k + x + y + 2)).data.toList = oc (sumS (s.extract k (k + x + y)).data.toList) w := by
  have l : (s.extract k (k + x)).data.toList.length % 2 = 0 := by rw [dlen, ext_size _ _ _ (by omega)]; omega
  rw [word_in_text s k x y w h hw, ByteArray.data_append, Array.toList_append, ByteArray.data_append, Array.toList_append, wordB_data, ext_two s k x y h]
  unfold sumS
  rw [oc_word _ hw, List.append_assoc, wsum_even _ _ l, wsum_even _ _ l, wsum_even (l := [UInt8.ofNat (w / 256), UInt8.ofNat (w % 256)]) _ _ (by simp), wsum_two, UInt8.toNat_ofNat', UInt8.toNat_ofNat']
  congr 1; omega

end Go.Proofs.Ytlgllgdaodfocaa
