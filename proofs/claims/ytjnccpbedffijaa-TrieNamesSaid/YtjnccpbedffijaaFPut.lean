/- What the call Put of package field does: a contract, by a walk. -/
import Derived.Test.YtjnccpbedffijaaFWider
import Derived.Test.YtjnccpbedffijaaFPre
namespace Go.Proofs.Ytjnccpbedffijaa
set_option linter.unusedVariables false
open Go.RowKit

theorem put_bad (s : ByteArray) (off width : Int) {r ah al : Int} (hs : s.size < 1152921504606846976) (o0 : -9223372036854775808 ≤ off) (o1 : off ≤ 9223372036854775807) (w0 : -9223372036854775808 ≤ width) (w1 : width ≤ 9223372036854775807) (hr : errF s.size off width = r) (hne : (r != 0) = true) (w : World) :
    Calls Try.prog 36 #[.string s, .int .i64 off, .int .i64 width, .agg #[.int .u64 ah, .int .u64 al]] w fun e w' => e = .returned (.tuple #[.string ⟨#[]⟩, .int .i64 r]) ∧ Grown w w' := by
  go_enter Try.func36, Try.ntmps36
  go_wp2_with (go_at_call 37; ((with_reducible refine (check_c s off width hs o0 o1 w0 w1 hr _).mono ?_); rintro e w2 ⟨rfl, rfl⟩))
  simp [bodyPost, results, Try.results36, go_sem]
  exact (Grown.refl _).alloc _ _

/-- Where Put stands: the word, the row of bytes. -/
structure Px (W : World) (B n : Nat) (ah al : Int) (v : Nat → Nat) (w : World) : Prop where
  a0 : w.cell? ⟨W.heap.size, 0, none⟩ = some (.int .u64 ah)
  a1 : w.cell? ⟨W.heap.size, 1, none⟩ = some (.int .u64 al)
  cell : ∀ j, j < n → w.cell? ⟨B, j, none⟩ = some (.int .u8 (v j))
  free : ∀ j, j < n → w.frozen? ⟨B, j, none⟩ = false
  wider : Wider W w
  own : W.heap.size < B
theorem Px.on {W w w1 : World} {B n : Nat} {ah al : Int} {v : Nat → Nat} (h : Px W B n ah al v w) (g : Wider w w1) : Px W B n ah al v w1 where
  a0 := wkeep g h.a0
  a1 := wkeep g h.a1
  cell j hj := wkeep g (h.cell j hj)
  free j hj := wfree g (h.cell j hj) (h.free j hj)
  wider := h.wider.trans g
  own := h.own
theorem Px.put {W w : World} {B n k : Nat} {ah al y : Int} {v u : Nat → Nat} (h : Px W B n ah al v w) (hk : k < n) (e : ∀ j, j < n → (u j : Int) = if j = k then y else (v j : Int)) : Px W B n ah al u (w.setCell ⟨B, k, none⟩ (.int .u8 y)) where
  a0 := by rw [cother (by intro q; injection q with q1; have := h.own; omega)]; exact h.a0
  a1 := by rw [cother (by intro q; injection q with q1; have := h.own; omega)]; exact h.a1
  cell j hj := by
    rw [e j hj]
    by_cases q : j = k
    · subst q; rw [if_pos rfl]; exact csame (h.cell j hj)
    · rw [if_neg q, cother (by intro r; injection r; omega)]; exact h.cell j hj
  free j hj := (World.frozen?_setCell _ _ _ _).trans (h.free j hj)
  wider := h.wider.setCell (Nat.le_of_lt h.own) _
  own := h.own

/-- The row that a text's bytes are laid in. -/
theorem Px.start {W w : World} {ah al : Int} (s : ByteArray) (hA : w = W.alloc (.cells #[.int .u64 ah, .int .u64 al] 70)) (cap : Nat) (e : TypeId) :
    Px W w.heap.size s.size ah al (byteS s) (w.alloc (.cells (bytesRow s cap) e ((bytesRow s cap).size, (bytesRow s cap).size + 1))).drew where
  a0 := by subst hA; exact wkeep ((Wider.refl _).alloc _).drew (by simp [go_sem])
  a1 := by subst hA; exact wkeep ((Wider.refl _).alloc _).drew (by simp [go_sem])
  cell j hj := by
    have q := World.cell?_alloc_mark w (bytesRow s cap) e ((bytesRow s cap).size, (bytesRow s cap).size + 1) j
    rw [bytesRow_at s cap j hj] at q
    rw [byteS_at s j hj]
    exact q
  free j hj := by
    have q := World.frozen?_alloc_mark w (bytesRow s cap) e (bytesRow s cap).size ((bytesRow s cap).size + 1) j
    have l : s.size ≤ (bytesRow s cap).size := by unfold bytesRow; simp
    have l2 : decide ((bytesRow s cap).size ≤ j) = false := by simp; omega
    rw [l2, Bool.false_and] at q
    exact q
  wider := by subst hA; exact (((Wider.refl _).alloc _).alloc _).drew
  own := by subst hA; simp

theorem put_byte8 : ∀ v : Fin 256, ∀ r : Fin 8, ∀ c : Fin 2,
    0 ≤ bits .or .u8 (bits .andNot .u8 ((v.val : Nat) : Int) (IntKind.u8.wrap (2 ^ (7 - r.val)))) (IntKind.u8.wrap (((c.val : Nat) : Int) * 2 ^ (7 - r.val))) ∧
    bits .or .u8 (bits .andNot .u8 ((v.val : Nat) : Int) (IntKind.u8.wrap (2 ^ (7 - r.val)))) (IntKind.u8.wrap (((c.val : Nat) : Int) * 2 ^ (7 - r.val))) < 256 ∧
    ∀ i : Fin 8, (bits .or .u8 (bits .andNot .u8 ((v.val : Nat) : Int) (IntKind.u8.wrap (2 ^ (7 - r.val)))) (IntKind.u8.wrap (((c.val : Nat) : Int) * 2 ^ (7 - r.val)))).toNat / 2 ^ (7 - i.val) % 2 = if i = r then c.val else v.val / 2 ^ (7 - i.val) % 2 := by decide +kernel
theorem put_byte (f g : Nat → Nat) (hf : ∀ k, f k ≤ 1) (hg : ∀ k, g k ≤ 1) (P c : Nat) (hc : c ≤ 1) (e : ∀ p, g p = if p = P then c else f p) :
    ((byteB g (P / 8) : Nat) : Int) = bits .or .u8 (bits .andNot .u8 ((byteB f (P / 8) : Nat) : Int) (2 ^ (7 - P % 8) % 256)) ((c : Int) * 2 ^ (7 - P % 8) % 256) := by
  rw [← IntKind.wrap_u8, ← IntKind.wrap_u8]
  obtain ⟨h0, h1, h2⟩ := put_byte8 ⟨byteB f (P / 8), byteB_lt f _ hf⟩ ⟨P % 8, by omega⟩ ⟨c, by omega⟩
  dsimp only at h0 h1 h2
  generalize bits .or .u8 _ _ = R at *
  obtain ⟨R, rfl⟩ := Int.eq_ofNat_of_zero_le h0
  rw [Int.toNat_natCast] at h2
  congr 1
  refine byte_ext (byteB_lt g _ hg) (by omega) (fun r hr => ?_)
  have q := h2 ⟨r, hr⟩
  dsimp only at q
  rw [q, byteB_bit g _ _ hg hr, byteB_bit f _ _ hf hr, e]
  by_cases z : r = P % 8
  · rw [if_pos (by omega), if_pos (by simpa using z)]
  · rw [if_neg (by omega), if_neg (by simpa using z)]

set_option maxHeartbeats 4000000 in
theorem put_c (s : ByteArray) (off n : Nat) (x : BitVec 128) {ah al : Int} {T : ByteArray} (hs : s.size < 1152921504606846976) (h1 : 1 ≤ n) (h2 : n ≤ 128) (h3 : off + n ≤ 8 * s.size) (hx : IsW ah al x) (hT : putT s off n x = T) (w : World) :
    Calls Try.prog 36 #[.string s, .int .i64 (off : Int), .int .i64 (n : Int), .agg #[.int .u64 ah, .int .u64 al]] w fun e w' => e = .returned (.tuple #[.string T, .int .i64 0]) ∧ Wider w w' := by
  have he := errF_of h1 h2 h3
  have hcv := run_bytes_of_string (P := Try.prog) (w.alloc (.cells #[.int .u64 ah, .int .u64 al] 70)) 9 30 5 s Try.underlying9 Try.underlying30 Try.underlying5
  obtain ⟨cap, hcap⟩ : ∃ c : Nat, grownCap (w.alloc (.cells #[.int .u64 ah, .int .u64 al] 70)) s.size 0 5 = c := ⟨_, rfl⟩
  rw [hcap] at hcv
  go_enter Try.func36, Try.ntmps36
  go_wp2_with (go_at_call 37; ((with_reducible refine (check_c s off n hs (by omega) (by omega) (by omega) (by omega) he _).mono ?_); rintro e w2 ⟨rfl, rfl⟩))
  have Z := Px.start (W := w) (ah := ah) (al := al) s rfl cap 5
  have hB : (w.alloc (.cells #[.int .u64 ah, .int .u64 al] 70)).heap.size = w.heap.size + 1 := by simp
  rw [hB] at Z
  clear hcv he hcap
  generalize ((w.alloc (.cells #[.int .u64 ah, .int .u64 al] 70)).alloc _).drew = V at *
  go_loopw [25] (fun i wr => ∃ k : Nat, k ≤ n ∧ i = .int .i64 k ∧ Px w (w.heap.size + 1) s.size ah al (byteB (putB s off n x k)) wr) (fun i _ => n - (intOf i).toNat)
  case atStart =>
    refine ⟨0, by omega, rfl, ?_⟩
    have e : byteS s = byteB (putB s off n x 0) := by
      funext j; rw [← byteB_text]; exact byteB_congr (fun r _ => (putB_0 s off n x _).symm)
    rw [← e]; exact Z
  case round =>
    obtain ⟨k, hk, rfl, hP⟩ := hrel
    by_cases hlt : k < n
    · have c0 := hP.a0
      have c1 := hP.a1
      obtain ⟨p, q, hp⟩ := isW_ex (x >>> (n - 1 - k))
      have hf : ∀ W : World, (Instr.field 70 (.agg #[.int .u64 p, .int .u64 q]) 1).run Try.prog W = .ok (.int .u64 q) W := fun _ => by kernel_rfl
      have hlt' : (k : Int) < (n : Int) := by omega
      have hbit : bits .and .u8 (q % 256) 1 = ((x.toNat / 2 ^ (n - 1 - k) % 2 : Nat) : Int) := by
        have l0 := hp.l0
        have v := hp.val
        rw [BitVec.toNat_ushiftRight, Nat.shiftRight_eq_div_pow] at v
        generalize x.toNat / 2 ^ (n - 1 - k) = X at *
        obtain ⟨Q, hQ⟩ : ∃ Q : Nat, q % 256 = (Q : Int) := ⟨(q % 256).toNat, by omega⟩
        rw [hQ, and_1_u8 Q (by omega)]
        omega
      obtain ⟨c, hc⟩ : ∃ c : Nat, x.toNat / 2 ^ (n - 1 - k) % 2 = c := ⟨_, rfl⟩
      have c1' : c ≤ 1 := by omega
      rw [hc] at hbit
      have hj : (off + k) / 8 < s.size := by omega
      have f1 : IntKind.i64.wrap (((off : Int) + (k : Int)).tdiv 8) = (((off + k) / 8 : Nat) : Int) := by rw [Int.tdiv_eq_ediv_of_nonneg (by omega), IntWalk.i64_in _ (by omega)]; omega
      have i0 : (0 : Int) ≤ ((off : Int) + (k : Int)) / 8 := by omega
      have i1 : ((off : Int) + (k : Int)) / 8 < (s.size : Int) := by omega
      have i4 : (((off : Int) + (k : Int)) / 8).toNat = (off + k) / 8 := by omega
      have i2 : (0 : Int) ≤ (((off + k) / 8 : Nat) : Int) := by omega
      have i3 : (((off + k) / 8 : Nat) : Int) < (s.size : Int) := by omega
      have pl : ∀ W : World, Calls Try.prog 38 #[.int .i64 ((off : Int) + (k : Int))] W fun e w' => e = .returned (.int .i64 (7 - (((off + k) % 8 : Nat) : Int))) ∧ w' = W := place_c (off + k) (by omega)
      go_wp2_with (go_at_call 42; ((with_reducible refine (right_c x ((n : Int) - 1 - (k : Int)) (by omega) (by omega) hx (by rw [show ((n : Int) - 1 - (k : Int)).toNat = n - 1 - k by omega]; exact hp) _).mono ?_); rintro e w1 ⟨rfl, g1⟩; have hQ := hP.on g1.wider; have d0 := hQ.cell _ hj; have d1 := hQ.free _ hj))
      go_region_with (go_at_call 38; ((with_reducible refine (pl _).mono ?_); rintro e w3 ⟨rfl, rfl⟩))
      all_goals
        go_wp2
        go_roundw
        case rel =>
          refine ⟨k + 1, by omega, by go_num, (hQ.put hj (fun j hj2 => ?_)).on (Wider.refl _).drew⟩
          by_cases z : j = (off + k) / 8
          · subst z
            rw [if_pos rfl]
            exact put_byte (putB s off n x k) (putB s off n x (k + 1)) (putB_le _ _ _ _ _) (putB_le _ _ _ _ _) (off + k) c c1' (fun p => by rw [putB_succ s off n x k p hlt, hc])
          · rw [if_neg z, byteB_congr (fun r hr => by rw [putB_succ s off n x k _ hlt, if_neg (by omega)])]
        case measure => simp [intOf]; omega
    · obtain rfl : k = n := by omega
      have hconv := run_convert_bytes_arg (P := Try.prog) wr 30 5 Try.underlying30 Try.underlying5 (w.heap.size + 1) 0 s.size cap ((List.range s.size).map fun j => ((byteB (putB s off k x k) j : Nat) : Int)) (by simp) (fun i hi => by rw [Nat.zero_add, hP.cell i hi, List.getD_eq_getElem?_getD, List.getElem?_map, List.getElem?_range hi]; rfl) 9 Try.underlying9
      have hs2 : strOfNums ((List.range s.size).map fun j => ((byteB (putB s off k x k) j : Nat) : Int)) = T := hT
      rw [hs2] at hconv
      have hW := hP.wider
      clear hs2 hP hT
      go_wp2
      simp [bodyPost, results, Try.results36, go_sem]
      exact hW

end Go.Proofs.Ytjnccpbedffijaa
