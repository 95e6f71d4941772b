/- What acts make: grown. -/
import Derived.Test.YtjnccpbedffijaaJAwake
import Derived.StillTailTactics
namespace Go.Proofs.Ytjnccpbedffijaa
set_option linter.unusedVariables false
open Go.ChangeShapes Go.WideShapes Go.ChangeAt Go.RowKit Go.Joins

def stepJ (t : Tr) (x : ActJ) : Tr := if x.what % 4 = 1 then delK t x.key x.n else putK t x.key x.n x.v
def grownT (l : List ActJ) : Tr := l.foldl stepJ .nil
theorem grownT_snoc (l : List ActJ) (x : ActJ) : grownT (l ++ [x]) = stepJ (grownT l) x := by unfold grownT; rw [List.foldl_append]; rfl
theorem count_stepJ (t : Tr) (x : ActJ) : (stepJ t x).count ≤ t.count + 1 := by
  unfold stepJ; split
  · have := count_delK t x.key x.n; omega
  · exact count_putK _ _ _ _
theorem count_foldJ : ∀ (l : List ActJ) (t : Tr), (l.foldl stepJ t).count ≤ t.count + l.length
  | [], t => Nat.le_refl _
  | x :: l, t => by
    have := count_foldJ l (stepJ t x)
    have := count_stepJ t x
    simp only [List.foldl_cons, List.length_cons]; omega
theorem count_grown (l : List ActJ) : (grownT l).count ≤ l.length := by
  have := count_foldJ l .nil
  unfold grownT
  have e : Tr.nil.count = 0 := rfl
  omega
/-- Acts of keys that are not too long. -/
def FineJ (l : List ActJ) : Prop := l.length < 1000 ∧ ∀ x ∈ l, x.key.size < 1000000 ∧ x.Ok
theorem fine_of {l : List ActJ} (hb : bulkJ l < 4000) (hz : ∀ y ∈ l, y.Ok) : FineJ l := by
  have := bulkJ_length l
  exact ⟨by omega, fun x hx => ⟨by have := bulkJ_mem hx; omega, hz x hx⟩⟩
set_option maxHeartbeats 4000000 in
theorem jgrown_c {V w : World} {R : List Thing} {A : Option Addr} {n cap : Nat} {l : List ActJ} (hn : l.length = n) (ha : ActsJAt V A l) (hf : FineJ l) (H : Own V w R) :
    Calls Try.prog 17 #[.slice A n cap] w fun e w' => ∃ B T, e = .returned (.pointer (some ⟨B, 0, none⟩)) ∧ IsTrie B (grownT l) T ∧ Own V w' (treeT T :: R) := by
  have n3 : n < 1000 := hn ▸ hf.1
  have HN := Lib.hid hn
  have HA := Lib.hid ha
  have HF := Lib.hid hf
  clear hn ha hf
  go_enter Try.func17, Try.ntmps17
  go_wp2_with (first
    | (go_at_call 18; ((with_reducible refine (jnew_c H).mono ?_); rintro e w1 ⟨B, T0, rfl, ht0, H0⟩; clear H; have HT0 := Lib.hid ht0; clear ht0)))
  go_loopw [4] (fun i wr => ∃ (k : Nat) (T : TB), k ≤ n ∧ i = .int .i64 (k : Int) ∧ Hid (IsTrie B (grownT (l.take k)) T) ∧ Own V wr (treeT T :: R)) (fun i _ => n - (intOf i).toNat)
  case atStart => exact ⟨0, T0, Nat.zero_le _, rfl, by rw [List.take_zero]; exact HT0, H0⟩
  case round =>
    clear H0 HT0
    obtain ⟨k, T, k0, rfl, HT, H⟩ := hrel
    by_cases q : k < n
    · have q0 : (0 : Int) ≤ (k : Int) := by omega
      have q1 : (k : Int) < (n : Int) := by omega
      obtain ⟨x, hx⟩ : ∃ x, l[k]? = some x := ⟨l[k]'(by have := HN.out; omega), List.getElem?_eq_getElem _⟩
      have HX := Lib.hid (HF.out.2 x (List.mem_of_getElem? hx))
      have HTK : Hid (grownT (l.take (k + 1)) = stepJ (grownT (l.take k)) x) := Lib.hid (by rw [takeJ_next l k x hx, grownT_snoc])
      have HCN : Hid ((grownT (l.take k)).count < 1000000) := Lib.hid (by have := count_grown (l.take k); rw [List.length_take] at this; omega)
      cases A with
      | none => exact absurd (HA.out.none_ rfl) (by intro e; rw [e] at hx; simp at hx)
      | some a =>
        have at_ := (HA.out.cell a rfl k x hx).on H.wider
        have c0 := at_.c0
        have c1 := at_.flat.1
        have c2 := at_.flat.2.1
        have c3 := at_.flat.2.2
        clear at_ hx
        by_cases e : x.what % 4 = 1
        · have e0 : (((x.what : Int) % 4) == 1) = true := by rw [beq_iff_eq]; omega
          have e2 : (x.what : Int).tmod 4 = (x.what : Int) % 4 := Int.tmod_eq_emod_of_nonneg (by omega)
          have HE : Hid (stepJ (grownT (l.take k)) x = delK (grownT (l.take k)) x.key x.n) := Lib.hid (by unfold stepJ; rw [if_pos e])
          clear e
          go_upto_region 6 with (fail)
          go_still_tail 11, (by kernel_rfl)
          change wpList _ _ _ _ _ wr.drew
          have H2 := H.quiet (Wider.refl wr).drew
          clear H c0 c1 c2 c3
          go_wp2_with (first
            | (go_at_call 12; ((with_reducible refine (jdel_g HX.out.1 HX.out.2.n0 HX.out.2.n1 HT.out HCN.out H2 rfl).mono ?_); rintro e w3 ⟨rfl, T2, ht2, H3⟩; have HT2 := Lib.hid ht2; clear ht2 H2)))
          go_roundw
          case rel => exact ⟨k + 1, T2, by omega, by go_num, by rw [HTK.out, HE.out]; exact HT2, H3⟩
          case measure => simp [intOf]; omega
        · have e0 : (((x.what : Int) % 4) == 1) = false := by rw [beq_eq_false_iff_ne]; omega
          have e2 : (x.what : Int).tmod 4 = (x.what : Int) % 4 := Int.tmod_eq_emod_of_nonneg (by omega)
          have HE : Hid (stepJ (grownT (l.take k)) x = putK (grownT (l.take k)) x.key x.n x.v) := Lib.hid (by unfold stepJ; rw [if_neg e])
          clear e
          go_upto_region 7 with (fail)
          go_still_tail 16, (by kernel_rfl)
          change wpList _ _ _ _ _ wr.drew
          have H2 := H.quiet (Wider.refl wr).drew
          clear H c0 c1 c2 c3
          go_wp2_with (first
            | (go_at_call 9; ((with_reducible refine (jput_g HX.out.1 HX.out.2.n0 HX.out.2.n1 HT.out HCN.out H2 rfl).mono ?_); rintro e w3 ⟨rfl, T2, ht2, H3⟩; have HT2 := Lib.hid ht2; clear ht2 H2)))
          go_roundw
          case rel => exact ⟨k + 1, T2, by omega, by go_num, by rw [HTK.out, HE.out]; exact HT2, H3⟩
          case measure => simp [intOf]; omega
    · have q1 : ¬ (k : Int) < (n : Int) := by omega
      have HL : Hid (l.take k = l) := Lib.hid (List.take_of_length_le (by have := HN.out; omega))
      go_wp2
      go_ret
      exact ⟨B, rfl, T, by have := HT.out; rw [HL.out] at this; exact this, H⟩
/-- Without some prefixes. -/
def delsJ (t : Tr) (l : List (List Bool × Int)) : Tr := l.foldl (fun t x => t.del x.1) t
theorem delsJ_snoc (t : Tr) (l : List (List Bool × Int)) (x : List Bool × Int) : delsJ t (l ++ [x]) = (delsJ t l).del x.1 := by unfold delsJ; rw [List.foldl_append]; rfl
theorem get_delsJ : ∀ (l : List (List Bool × Int)) (t : Tr) (q : List Bool), (delsJ t l).get q = if q ∈ l.map (·.1) then none else t.get q
  | [], t, q => by simp [delsJ]
  | x :: l, t, q => by
    have ih := get_delsJ l (t.del x.1) q
    show (delsJ (t.del x.1) l).get q = _
    rw [ih, Tr.get_del]
    simp only [List.map_cons, List.mem_cons]
    by_cases a : q ∈ l.map (·.1)
    · rw [if_pos a, if_pos (.inr a)]
    · rw [if_neg a]
      by_cases b : q = x.1
      · rw [if_pos b, if_pos (.inl b)]
      · rw [if_neg b, if_neg (by rintro (h | h); exact b h; exact a h)]
theorem count_delsJ : ∀ (l : List (List Bool × Int)) (t : Tr), (delsJ t l).count ≤ t.count
  | [], t => Nat.le_refl _
  | x :: l, t => by
    have ih := count_delsJ l (t.del x.1)
    have := Tr.count_del t x.1
    show (delsJ (t.del x.1) l).count ≤ _
    omega
/-- Each prefix once. -/
theorem all_once (t : Tr) {j k : Nat} {x y : List Bool × Int} (hj : (t.all [])[j]? = some x) (hk : (t.all [])[k]? = some y) (h : j < k) : x.1 ≠ y.1 := by
  obtain ⟨a, ha⟩ := List.getElem?_eq_some_iff.1 hj
  obtain ⟨b, hb⟩ := List.getElem?_eq_some_iff.1 hk
  have q := List.pairwise_iff_getElem.1 (Tr.all_sorted t []) j k a b h
  rw [ha, hb] at q
  intro e
  rw [e] at q
  exact Tr.Ahead.irrefl _ q
theorem dels_here {t : Tr} {k : Nat} {x : List Bool × Int} (hk : (t.all [])[k]? = some x) (hg : t.get x.1 = some x.2) : (delsJ t ((t.all []).take k)).get x.1 = some x.2 := by
  rw [get_delsJ, if_neg, hg]
  intro m
  obtain ⟨y, hy, e⟩ := List.mem_map.1 m
  obtain ⟨j, hj, hy⟩ := List.mem_take_iff_getElem.1 hy
  have hj2 : j < (t.all []).length := by omega
  exact all_once t (j := j) (k := k) (x := y) (by rw [List.getElem?_eq_getElem hj2, hy]) hk (by omega) e
theorem dels_all (t : Tr) (q : List Bool) : (delsJ t (t.all [])).get q = none := by
  rw [get_delsJ]
  by_cases m : q ∈ (t.all []).map (·.1)
  · rw [if_pos m]
  · rw [if_neg m]
    cases e : t.get q with
    | none => rfl
    | some v => exact absurd (List.mem_map.2 ⟨(q, v), (Tr.mem_all t [] q v).2 ⟨q, rfl, e⟩, rfl⟩) m
/-- Of the items those at the places f 0 .. f (k - 1) have been put. -/
structure SeenJ (t bt : Tr) (f : Nat → Nat) (k : Nat) : Prop where
  yes : ∀ q i x, i < k → (t.all [])[f i]? = some x → x.1 = q → bt.get q = t.get q
  no : ∀ q, (∀ i x, i < k → (t.all [])[f i]? = some x → x.1 ≠ q) → bt.get q = none
theorem SeenJ.new (t : Tr) (f : Nat → Nat) : SeenJ t .nil f 0 := ⟨fun q i x h => absurd h (Nat.not_lt_zero i), fun q _ => Tr.get_nil q⟩
theorem SeenJ.put {t bt bt2 : Tr} {f : Nat → Nat} {k : Nat} (h : SeenJ t bt f k) {x : List Bool × Int} (hx : (t.all [])[f k]? = some x) (hg : t.get x.1 = some x.2) (e : ∀ q, bt2.get q = if q = x.1 then some x.2 else bt.get q) : SeenJ t bt2 f (k + 1) where
  yes q i y hi hy hq := by
    rw [e]
    by_cases c : q = x.1
    · rw [if_pos c, c, hg]
    · rw [if_neg c]
      rcases Nat.lt_or_eq_of_le (Nat.lt_succ_iff.1 hi) with d | d
      · exact h.yes q i y d hy hq
      · subst d
        rw [hx] at hy
        injection hy with hy
        rw [← hy] at hq
        exact absurd hq.symm c
  no q hq := by
    rw [e, if_neg (fun c => hq k x (Nat.lt_succ_self k) hx c.symm)]
    exact h.no q fun i y hi hy => hq i y (Nat.lt_succ_of_lt hi) hy
theorem SeenJ.done {t bt : Tr} {f : Nat → Nat} {k : Nat} (h : SeenJ t bt f k) (hf : ∀ j, j < (t.all []).length → ∃ i, i < k ∧ f i = j) : ∀ q, bt.get q = t.get q := fun q => by
  cases e : t.get q with
  | none =>
    refine h.no q fun i x hi hx hq => ?_
    obtain ⟨bs, e1, e2⟩ := (Tr.mem_all t [] x.1 x.2).1 (List.mem_of_getElem? hx)
    rw [List.nil_append] at e1
    rw [← e1, hq, e] at e2
    cases e2
  | some v =>
    have m := (Tr.mem_all t [] q v).2 ⟨q, rfl, e⟩
    obtain ⟨j, hj, hv⟩ := List.getElem_of_mem m
    obtain ⟨i, hi, rfl⟩ := hf j hj
    rw [← e]
    exact h.yes q i (q, v) hi (by rw [List.getElem?_eq_getElem hj, hv]) rfl
theorem put_twice (t : Tr) (p : List Bool) (a b : Int) (q : List Bool) : ((t.put p a).put p b).get q = if q = p then some b else t.get q := by
  rw [Tr.get_put, Tr.get_put]
  by_cases c : q = p
  · rw [if_pos c, if_pos c]
  · rw [if_neg c, if_neg c, if_neg c]
theorem count_put_le (t : Tr) (p : List Bool) (a : Int) : (t.put p a).count ≤ t.count + 1 := by rw [Tr.count_put]; split <;> omega
/-- What is put and taken out again. -/
theorem put_del_K {t : Tr} {key : ByteArray} {n x : Int} (h : getK t key n = none) : (∀ q, (delK (putK t key n x) key n).get q = t.get q) ∧ (checkN key n = 0 → getK (putK t key n x) key n = some x) ∧ (checkN key n ≠ 0 → putK t key n x = t) := by
  by_cases c : checkN key n = 0
  · have e1 : getK t key n = t.get (bitsK key n) := by unfold getK; rw [if_pos c]
    refine ⟨fun q => ?_, fun _ => ?_, fun d => absurd c d⟩
    · unfold delK putK
      rw [if_pos c, if_pos c, Tr.get_del, Tr.get_put]
      by_cases d : q = bitsK key n
      · rw [if_pos d, d, ← e1, h]
      · rw [if_neg d, if_neg d]
    · unfold getK putK
      rw [if_pos c, if_pos c, Tr.get_put, if_pos rfl]
  · refine ⟨fun q => ?_, fun d => absurd d c, fun _ => ?_⟩
    · unfold delK putK; rw [if_neg c, if_neg c]
    · unfold putK; rw [if_neg c]
theorem string_few {H : Type} {ts : List TypeId} {t : TypeId} {ds : List (DataW H)} {l : List UInt8} (hz : (DataW.weightsEach Try.prog ts ds).all (· ≤ reachBytes) = true) (j : Nat) (ht : ts[j]? = some t) (hd : ds[j]? = some (.lit (.string l))) : l.length ≤ reachBytes := by
  have q := List.all_eq_true.1 hz l.length (DataW.weights_mem_each ht hd _ (by simp [DataW.weights]))
  simpa using q
/-- The longest beginning of bytes, and of these and further ones. -/
theorem bitL_append (a b : ByteArray) : bitL (a ++ b) = bitL a ++ bitL b := by
  apply List.ext_getElem?
  intro i
  have hs : (a ++ b).size = a.size + b.size := ByteArray.size_append
  have key : ∀ j, byteS (a ++ b) j = if j < a.size then byteS a j else byteS b (j - a.size) := fun j => by
    unfold byteS
    rw [ByteArray.data_append, Array.toList_append, List.getD_eq_getElem?_getD, List.getElem?_append, List.getD_eq_getElem?_getD]
    have e : a.data.toList.length = a.size := rfl
    rw [e]
    by_cases c : j < a.size
    · rw [if_pos c, if_pos c]
    · rw [if_neg c, if_neg c, List.getD_eq_getElem?_getD]
  rw [List.getElem?_append, bitL_length]
  by_cases c : i < 8 * a.size
  · rw [if_pos c, bitL_at _ _ (by rw [hs]; omega), bitL_at _ _ c]
    unfold bitS
    rw [key, if_pos (by omega)]
  · rw [if_neg c]
    by_cases d : i < 8 * (a ++ b).size
    · rw [bitL_at _ _ d, bitL_at _ _ (by rw [hs] at d; omega)]
      unfold bitS
      rw [key, if_neg (by omega)]
      have e1 : (i - 8 * a.size) / 8 = i / 8 - a.size := by omega
      have e2 : (i - 8 * a.size) % 8 = i % 8 := by omega
      rw [e1, e2]
    · rw [List.getElem?_eq_none (by rw [bitL_length]; omega), List.getElem?_eq_none (by rw [bitL_length]; rw [hs] at d; omega)]
inductive MoreJ (t : Tr) (b c : List Bool) : Prop
  | same (h : t.longest (b ++ c) = t.longest b)
  | far (m : Nat) (w : Int) (h : t.longest (b ++ c) = some (m, w)) (hm : b.length < m) (hn : ∀ n v, t.longest b = some (n, v) → n ≤ b.length) (q : List Bool) (hq : t.get q = some w) (hl : q.length = m)
theorem more_is (t : Tr) (b c : List Bool) : MoreJ t b c := by
  cases e : t.longest (b ++ c) with
  | none =>
    refine .same ?_
    rw [e]
    have k := Tr.longest_some.longest_none t _ e
    symm
    refine Tr.longest_not fun m hm => ?_
    have := k m (by rw [List.length_append]; omega)
    rwa [List.take_append_of_le_length hm] at this
  | some y =>
    obtain ⟨q1, q2, q3⟩ := Tr.longest_some t _ y.1 y.2 e
    by_cases d : y.1 ≤ b.length
    · refine .same ?_
      rw [e]
      symm
      refine Tr.longest_is d ?_ fun m h1 h2 => ?_
      · rwa [List.take_append_of_le_length d] at q2
      · have := q3 m h1 (by rw [List.length_append]; omega)
        rwa [List.take_append_of_le_length h2] at this
    · exact .far y.1 y.2 e (by omega) (fun n v h => (Tr.longest_some t b n v h).1) _ q2 (by rw [List.length_take]; omega)
end Go.Proofs.Ytjnccpbedffijaa
