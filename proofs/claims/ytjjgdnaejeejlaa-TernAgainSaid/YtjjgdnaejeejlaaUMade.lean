/- What acts make: made. -/
import Derived.Test.YtjjgdnaejeejlaaUSetN
import Derived.Test.YtjjgdnaejeejlaaUActs
import Derived.StillTailTactics
namespace Go.Proofs.Ytjjgdnaejeejlaa
set_option linter.unusedVariables false
open Go.ChangeShapes Go.WideShapes Go.ChangeAt Go.RowKit Go.Joins

theorem SetIs.up {V w : World} {R : List Thing} {S : Nat} {L : List ItN} {N M : Nat} (h : SetIs V w R S L N) (hm : N ≤ M) : SetIs V w R S L M := by
  obtain ⟨s, e, H, hl⟩ := h
  exact ⟨s, e, H, hl.good, hl.all, hl.small, Nat.le_trans hl.len hm, Nat.le_trans hl.last hm⟩
theorem sall_o {V w : World} {R : List Thing} {S : Nat} {L : List ItN} {N : Nat} (h : SetIs V w R S L N) (hN : N < 99990) {n : Nat} (hn : L.length = n) :
    Calls Try.prog 20 #[.pointer (some ⟨S, 0, none⟩)] w fun e w' => ∃ B c, e = .returned (.slice B n c) ∧ SetIs V w' (rowI (.slice B n c) n L :: R) S L N := by
  obtain ⟨s, rfl, H, hl⟩ := h
  subst hn
  refine (uall_g H (fun t ht => List.mem_append_left _ ht) hl hN).mono ?_
  rintro e w' ⟨B, c, e1, K⟩
  exact ⟨B, c, e1, s, rfl, K.perm (List.perm_middle (l₁ := s.things)).symm, hl⟩
def stepU (L : List ItN) (y : ActU) : List ItN := if y.what = 0 then (if FormN y.x then butL L y.x ++ [y.x] else L) else if y.what = 1 then delL L y.x.key y.x.mask y.x.prio else L
def madeL (l : List ActU) : List ItN := l.foldl stepU []
theorem madeL_snoc (l : List ActU) (x : ActU) : madeL (l ++ [x]) = stepU (madeL l) x := by unfold madeL; rw [List.foldl_append]; rfl
theorem butL_len (L : List ItN) (x : ItN) : (butL L x).length ≤ L.length := List.length_filter_le _ _
theorem butL_none {L : List ItN} {x : ItN} (h : ∀ y ∈ L, ¬ SameN y x) : butL L x = L := List.filter_eq_self.2 fun y hy => decide_eq_true (h y hy)
theorem mem_butL {L : List ItN} {x y : ItN} : y ∈ butL L x ↔ y ∈ L ∧ ¬ SameN y x := by
  unfold butL
  rw [List.mem_filter]
  simp
theorem stepU_len (L : List ItN) (y : ActU) : (stepU L y).length ≤ L.length + 1 := by
  unfold stepU
  split
  · split
    · rw [List.length_append]; have := butL_len L y.x; simp only [List.length_cons, List.length_nil]; omega
    · omega
  · split
    · have := butL_len L ⟨y.x.key, y.x.mask, y.x.prio, 0⟩; unfold delL; omega
    · omega
theorem madeL_len (l : List ActU) : (madeL l).length ≤ l.length := by
  have : ∀ (l : List ActU) (L : List ItN), (l.foldl stepU L).length ≤ L.length + l.length := by
    intro l
    induction l with
    | nil => intro L; exact Nat.le_refl _
    | cons x l ih =>
      intro L
      rw [List.foldl_cons]
      have := ih (stepU L x)
      have := stepU_len L x
      rw [List.length_cons]; omega
  have := this l []
  simpa [madeL] using this
/-- What items that stand in a set are. -/
structure FineL (L : List ItN) : Prop where
  one : L.Pairwise fun x y => ¬ SameN x y
  of : ∀ x ∈ L, FormN x ∧ x.Ok ∧ x.key.size < 1000000 ∧ x.mask.size < 1000000
theorem FineL.but {L : List ItN} (h : FineL L) (x : ItN) : FineL (butL L x) := ⟨h.one.filter _, fun y hy => h.of y (mem_butL.1 hy).1⟩
theorem sameN_symm {x y : ItN} (h : SameN x y) : SameN y x := ⟨h.1.symm, h.2.1.symm, h.2.2.symm⟩
theorem FineL.put {L : List ItN} (h : FineL L) {x : ItN} (hf : FormN x) (ho : x.Ok) (hk : x.key.size < 1000000) (hm : x.mask.size < 1000000) : FineL (butL L x ++ [x]) where
  one := List.pairwise_append.2 ⟨(h.but x).one, List.pairwise_singleton _ _, fun a ha b hb => by
    obtain rfl : b = x := by simpa using hb
    exact (mem_butL.1 ha).2⟩
  of y hy := by
    rcases List.mem_append.1 hy with hy | hy
    · exact (h.but x).of y hy
    · obtain rfl : y = x := by simpa using hy
      exact ⟨hf, ho, hk, hm⟩
/-- Acts that are not too long. -/
def FineU (l : List ActU) : Prop := l.length < 1000 ∧ ∀ x ∈ l, x.x.key.size < 1000000 ∧ x.x.mask.size < 1000000 ∧ x.Ok
theorem fineU_of {l : List ActU} (hb : bulkU l < 4000) (hz : ∀ y ∈ l, y.Ok) : FineU l := by
  have := bulkU_length l
  exact ⟨by omega, fun x hx => ⟨by have := bulkU_mem hx; omega, by have := bulkU_mem hx; omega, hz x hx⟩⟩
theorem fine_step {L : List ItN} (h : FineL L) {y : ActU} (hy : y.x.key.size < 1000000 ∧ y.x.mask.size < 1000000 ∧ y.Ok) : FineL (stepU L y) := by
  unfold stepU
  split
  · split
    · rename_i hf; exact h.put hf hy.2.2.x hy.1 hy.2.1
    · exact h
  · split
    · exact h.but _
    · exact h
theorem fine_made {l : List ActU} (h : FineU l) : FineL (madeL l) := by
  have : ∀ (l : List ActU) (L : List ItN), FineL L → (∀ x ∈ l, x.x.key.size < 1000000 ∧ x.x.mask.size < 1000000 ∧ x.Ok) → FineL (l.foldl stepU L) := by
    intro l
    induction l with
    | nil => intro L hL _; exact hL
    | cons x l ih =>
      intro L hL hl
      rw [List.foldl_cons]
      exact ih _ (fine_step hL (hl x (.head _))) fun y hy => hl y (.tail _ hy)
  exact this l [] ⟨.nil, fun x hx => by cases hx⟩ h.2
/-! ### Put and Del of whatever it is -/
theorem sput_g {V w : World} {R : List Thing} {S : Nat} {L : List ItN} {N : Nat} (h : SetIs V w R S L N) (hN : N < 99990) {k m : ByteArray} {q v : Int} (hk : k.size < 1000000) (hm : m.size < 1000000) :
    Calls Try.prog 14 #[.pointer (some ⟨S, 0, none⟩), .agg #[.string k, .string m, .int .i64 q, .int .i64 v]] w fun e w' => ∃ r, e = .returned (.int .i64 r) ∧ SetIs V w' R S (if FormN ⟨k, m, q, v⟩ then butL L ⟨k, m, q, v⟩ ++ [⟨k, m, q, v⟩] else L) (N + 1) := by
  by_cases c : FormN ⟨k, m, q, v⟩
  · rw [if_pos c]
    exact (sput_o h hN c hk hm rfl).mono fun e w' ⟨e1, h1⟩ => ⟨0, e1, h1⟩
  · rw [if_neg c]
    exact (sputbad_o h c hk).mono fun e w' ⟨e1, h1⟩ => ⟨3, e1, h1.up (by omega)⟩
theorem sdel_g {V w : World} {R : List Thing} {S : Nat} {L : List ItN} {N : Nat} (h : SetIs V w R S L N) (hN : N < 99990) {k m : ByteArray} {q : Int} (hk : k.size < 1000000) (hm : m.size < 1000000) :
    Calls Try.prog 17 #[.pointer (some ⟨S, 0, none⟩), .string k, .string m, .int .i64 q] w fun e w' => ∃ r, e = .returned (.bool r) ∧ SetIs V w' R S (delL L k m q) (N + 1) := by
  by_cases c : ∃ y ∈ L, SameN y ⟨k, m, q, 0⟩
  · exact (sdel_o h hN hk hm c rfl).mono fun e w' ⟨e1, h1⟩ => ⟨true, e1, h1.up (by omega)⟩
  · have c2 : ∀ y ∈ L, ¬ SameN y ⟨k, m, q, 0⟩ := fun y hy hs => c ⟨y, hy, hs⟩
    have e : delL L k m q = L := butL_none c2
    rw [e]
    exact (sdelno_o h hN hk hm c2).mono fun e w' ⟨e1, h1⟩ => ⟨false, e1, h1.up (by omega)⟩
set_option maxRecDepth 20000 in
set_option maxHeartbeats 4000000 in
theorem umade_c {V w : World} {R : List Thing} {A : Option Addr} {n cap : Nat} {l : List ActU} (hn : l.length = n) (ha : ActsUAt V A l) (hf : FineU l) (H : Own V w R) :
    Calls Try.prog 23 #[.slice A n cap] w fun e w' => ∃ S : Nat, e = .returned (.pointer (some ⟨S, 0, none⟩)) ∧ SetIs V w' R S (madeL l) n := by
  have n3 : n < 1000 := hn ▸ hf.1
  have HN := Lib.hid hn
  have HA := Lib.hid ha
  have HF := Lib.hid hf
  clear hn ha hf
  go_enter Try.func23, Try.ntmps23
  go_wp2_with (first
    | (go_at_call 12; ((with_reducible refine (snew_c H).mono ?_); rintro e w1 ⟨S, rfl, K0⟩; clear H)))
  go_loopw [4] (fun i wr => ∃ k : Nat, k ≤ n ∧ i = .int .i64 (k : Int) ∧ SetIs V wr R S (madeL (l.take k)) k) (fun i _ => n - (intOf i).toNat)
  case atStart => exact ⟨0, Nat.zero_le _, rfl, by rw [List.take_zero]; exact K0⟩
  case round =>
    clear K0
    obtain ⟨k, k0, rfl, K⟩ := hrel
    by_cases q : k < n
    · have q0 : (0 : Int) ≤ (k : Int) := by omega
      have q1 : (k : Int) < (n : Int) := by omega
      obtain ⟨x, hx⟩ : ∃ x, l[k]? = some x := ⟨l[k]'(by have := HN.out; omega), List.getElem?_eq_getElem _⟩
      have hx1 := HF.out.2 x (List.mem_of_getElem? hx)
      have HTK : Hid (madeL (l.take (k + 1)) = stepU (madeL (l.take k)) x) := Lib.hid (by rw [takeU_next l k x hx, madeL_snoc])
      cases A with
      | none => exact absurd (HA.out.none_ rfl) (by intro e; rw [e] at hx; simp at hx)
      | some a =>
        have at_ := (HA.out.cell a rfl k x hx).on K.wider
        have c0 := at_.c0
        obtain ⟨c1, c2, c3, c4⟩ := at_.flat
        obtain ⟨what, ⟨key, mask, prio, v⟩⟩ := x
        have hk : key.size < 1000000 := hx1.1
        have hm : mask.size < 1000000 := hx1.2.1
        have c0 : wr.cell? (a.add (k * 5)) = some (.int .u8 (what : Int)) := c0
        clear at_ hx hx1
        by_cases e : what = 0
        · subst e
          have HE : Hid (stepU (madeL (l.take k)) ⟨0, ⟨key, mask, prio, v⟩⟩ = if FormN ⟨key, mask, prio, v⟩ then butL (madeL (l.take k)) ⟨key, mask, prio, v⟩ ++ [⟨key, mask, prio, v⟩] else madeL (l.take k)) := Lib.hid rfl
          go_wp2_with (first
            | (go_at_call 14; ((with_reducible refine (sput_g K (by omega) hk hm).mono ?_); rintro e w3 ⟨r, rfl, K3⟩; clear K)))
          go_roundw
          case rel => exact ⟨k + 1, by omega, by go_num, by rw [HTK.out, HE.out]; exact K3⟩
          case measure => simp [intOf]; omega
        · have e0 : ((what : Int) == 0) = false := by rw [beq_eq_false_iff_ne]; omega
          have e00 : ¬ (what : Int) = 0 := by omega
          by_cases e1 : what = 1
          · subst e1
            have HE : Hid (stepU (madeL (l.take k)) ⟨1, ⟨key, mask, prio, v⟩⟩ = delL (madeL (l.take k)) key mask prio) := Lib.hid rfl
            go_upto_region 9 with (fail)
            go_still_tail 19, (by kernel_rfl)
            change wpList _ _ _ _ _ wr.drew
            have K2 := K.quiet (Wider.refl wr).drew
            clear K c0 c1 c2 c3 c4
            go_wp2_with (first
              | (go_at_call 17; ((with_reducible refine (sdel_g K2 (by omega) hk hm).mono ?_); rintro e w3 ⟨r, rfl, K3⟩; clear K2)))
            go_roundw
            case rel => exact ⟨k + 1, by omega, by go_num, by rw [HTK.out, HE.out]; exact K3⟩
            case measure => simp [intOf]; omega
          · have e2 : ((what : Int) == 1) = false := by rw [beq_eq_false_iff_ne]; omega
            have e3 : ¬ (what : Int) = 1 := by omega
            have HE : Hid (stepU (madeL (l.take k)) ⟨what, ⟨key, mask, prio, v⟩⟩ = madeL (l.take k)) := Lib.hid (by unfold stepU; rw [if_neg e, if_neg e1])
            go_wp2
            go_roundw
            case rel => exact ⟨k + 1, by omega, by go_num, by rw [HTK.out, HE.out]; exact K.up (by omega)⟩
            case measure => simp [intOf]; omega
    · have q1 : ¬ (k : Int) < (n : Int) := by omega
      have HL : Hid (l.take k = l) := Lib.hid (List.take_of_length_le (by have := HN.out; omega))
      go_wp2
      go_ret
      exact ⟨S, rfl, by rw [HL.out] at K; exact K.up k0⟩

end Go.Proofs.Ytjjgdnaejeejlaa
