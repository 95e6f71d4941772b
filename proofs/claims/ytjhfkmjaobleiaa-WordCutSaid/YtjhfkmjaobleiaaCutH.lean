/- The law WordCut: what is cut is not above its Mask, and what comes of words that were cut ahead is that of the words. No condition. -/
import Derived.Test.YtjhfkmjaobleiaaFrame
import Derived.Test.YtjhfkmjaobleiaaBits
import Derived.Lib.Hide
import Derived.Deep.DeepCutAuto
import Derived.WalkLawsBesides
namespace Go.Proofs.Ytjhfkmjaobleiaa
set_option linter.unusedVariables false
open Go.ChangeShapes Go.WideShapes Go.ChangeAt Go.RowKit Go.Joins
open Go.ChangeMaps (open_string shut_string)

theorem ghid {V W w : World} (h : Hid (Grown V W)) (g : Grown W w) : Hid (Grown V w) := h.out.trans3 g
theorem le_lt1 {a n : Nat} (h : a + 1 ≤ n) : a < n := h
theorem le_lt2 {a n : Nat} (h : a + 1 + 1 ≤ n) : a < n ∧ a + 1 < n := ⟨by omega, h⟩
theorem gcells {W w : World} (g : Grown W w) : ∀ b o, b < W.heap.size → w.cell? ⟨b, o, none⟩ = W.cell? ⟨b, o, none⟩ := by
  intro b o hb
  obtain ⟨⟨_, _, h⟩, _, _⟩ := g
  have k := h b hb
  unfold World.cell?
  revert k
  have e : W.heap[b]? = some W.heap[b] := by simp [hb]
  show (match W.heap[b]?, w.heap[b]? with | some (.cells c t fr), some (.cells c' t' fr') => t' = t ∧ fr' = fr ∧ c'.size = c.size ∧ ∀ j : Nat, ¬ False → c'[j]? = c[j]? | some (.map es clock), some (.map es' clock') => False ∨ (es' = es ∧ clock' = clock) | o, o' => o' = o) → _
  rw [e]
  dsimp only
  cases W.heap[b] with
  | cells c t fr =>
    cases w.heap[b]? with
    | none => intro k; simp at k
    | some o' =>
      cases o' with
      | cells c' t' fr' => intro k; dsimp only at k ⊢; rw [k.2.2.2 o (fun f => f)]
      | _ => intro k; simp at k
  | _ =>
    cases w.heap[b]? with
    | none => intro k; simp at k
    | some o' =>
      cases o' with
      | cells c' t' fr' => intro k; simp at k
      | _ => intro _; rfl
theorem gfrozen {W w : World} (g : Grown W w) : ∀ a, w.frozen? a = W.frozen? a := g.2.1
/-- What a region keeps of two words. -/
theorem mkS {W w : World} {a b c d : Addr} {p q r s : Value} (ka : W.cell? a = some p) (kb : W.cell? b = some q) (kc : W.cell? c = some r) (kd : W.cell? d = some s) (g : Grown W w) :
    w.cell? a = some p ∧ w.cell? b = some q ∧ w.cell? c = some r ∧ w.cell? d = some s ∧ Hid (Grown W w) := ⟨gkeep g ka, gkeep g kb, gkeep g kc, gkeep g kd, g⟩
theorem sGrown {W w v : World} {a b c d : Addr} {p q r s : Value} (g : Grown w v) (h : w.cell? a = some p ∧ w.cell? b = some q ∧ w.cell? c = some r ∧ w.cell? d = some s ∧ Hid (Grown W w)) : Grown W v := h.2.2.2.2.out.trans3 g
/-- The place that a number is brought to. -/
theorem rem_nat (n d : Int) (hd : 0 < d) (hd1 : d < 1000) : ∃ N : Nat, wrap64 ((IntKind.u64.wrap n).tmod d) = (N : Int) ∧ (N : Int) < d := by
  have w0 : 0 ≤ IntKind.u64.wrap n := wrap_u64_nonneg n
  have e : (IntKind.u64.wrap n).tmod d = IntKind.u64.wrap n % d := Int.tmod_eq_emod_of_nonneg w0
  have h0 : 0 ≤ IntKind.u64.wrap n % d := Int.emod_nonneg _ (by omega)
  have h1 := Int.emod_lt_of_pos (IntKind.u64.wrap n) hd
  refine ⟨(IntKind.u64.wrap n % d).toNat, ?_, by omega⟩
  rw [e]; unfold wrap64; omega

theorem keep9 {V W w : World} {a0 a1 a2 a3 a4 a5 a6 a7 : Addr} {v0 v1 v2 v3 v4 v5 v6 v7 : Value} (g : Grown W w) (h : W.cell? a0 = some v0 ∧ W.cell? a1 = some v1 ∧ W.cell? a2 = some v2 ∧ W.cell? a3 = some v3 ∧ W.cell? a4 = some v4 ∧ W.cell? a5 = some v5 ∧ W.cell? a6 = some v6 ∧ W.cell? a7 = some v7 ∧ Hid (Grown V W)) :
    w.cell? a0 = some v0 ∧ w.cell? a1 = some v1 ∧ w.cell? a2 = some v2 ∧ w.cell? a3 = some v3 ∧ w.cell? a4 = some v4 ∧ w.cell? a5 = some v5 ∧ w.cell? a6 = some v6 ∧ w.cell? a7 = some v7 ∧ Hid (Grown V w) := ⟨gkeep g h.1, gkeep g h.2.1, gkeep g h.2.2.1, gkeep g h.2.2.2.1, gkeep g h.2.2.2.2.1, gkeep g h.2.2.2.2.2.1, gkeep g h.2.2.2.2.2.2.1, gkeep g h.2.2.2.2.2.2.2.1, h.2.2.2.2.2.2.2.2.out.trans3 g⟩

theorem compare_r (x y : BitVec 128) {ah al bh bl r : Int} (hx : IsW ah al x) (hy : IsW bh bl y) (hr : cmpW x y = r) (w : World) :
    Calls Try.prog 26 #[.agg #[.int .u64 ah, .int .u64 al], .agg #[.int .u64 bh, .int .u64 bl]] w fun e w' => e = .returned (.int .i64 r) ∧ Grown w w' := by
  rw [← hr]; exact compare_c x y hx hy w

end Go.Proofs.Ytjhfkmjaobleiaa
