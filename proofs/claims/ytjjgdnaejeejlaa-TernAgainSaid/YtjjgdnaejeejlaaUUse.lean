/- Package tern: what is found, and how many groups are searched, as functions of all items. -/
import Derived.Test.YtjjgdnaejeejlaaUSetL
namespace Go.Proofs.Ytjjgdnaejeejlaa
set_option linter.unusedVariables false
open Go.ChangeShapes Go.WideShapes Go.ChangeAt Go.RowKit Go.Joins Go.Maps Go.ChangeMaps

instance (x : ItN) (k : ByteArray) : Decidable (MatchN x k) := inferInstanceAs (Decidable (_ ∧ _))
instance (x : ItN) : Decidable (FormN x) := inferInstanceAs (Decidable (MatchN _ _))
def stepF (key : ByteArray) (o : Option ItN) (y : ItN) : Option ItN :=
  if MatchN y key then (match o with | none => some y | some b => if b.prio < y.prio then some y else some b) else o
def findF (key : ByteArray) (L : List ItN) : Option ItN := L.foldl (stepF key) none
theorem findF_low {key : ByteArray} {x : ItN} : ∀ (A : List ItN) (o : Option ItN), (∀ y ∈ A, MatchN y key → y.prio < x.prio) → (∀ b, o = some b → b.prio < x.prio) → ∀ b, A.foldl (stepF key) o = some b → b.prio < x.prio
  | [], o, _, h => h
  | a :: A, o, hA, h => by
    rw [List.foldl_cons]
    refine findF_low A _ (fun y hy => hA y (.tail _ hy)) fun b hb => ?_
    unfold stepF at hb
    split at hb
    · rename_i hm
      have ha := hA a (.head _) hm
      cases o with
      | none => injection hb with hb; rw [← hb]; exact ha
      | some c =>
        dsimp only at hb
        split at hb
        · injection hb with hb; rw [← hb]; exact ha
        · injection hb with hb; rw [← hb]; exact h c rfl
    · exact h b hb
theorem findF_stay {key : ByteArray} {x : ItN} : ∀ (B : List ItN), (∀ y ∈ B, MatchN y key → y.prio ≤ x.prio) → B.foldl (stepF key) (some x) = some x
  | [], _ => rfl
  | a :: B, h => by
    rw [List.foldl_cons]
    have e : stepF key (some x) a = some x := by
      unfold stepF
      split
      · rename_i hm
        have := h a (.head _) hm
        dsimp only
        rw [if_neg (by omega)]
      · rfl
    rw [e]
    exact findF_stay B fun y hy => h y (.tail _ hy)
theorem find_eq {L : List ItN} {key : ByteArray} {r : Option ItN} (h : FindE L key r) : r = findF key L := by
  cases r with
  | none =>
    unfold findF
    have : ∀ l : List ItN, (∀ x ∈ l, ¬ MatchN x key) → l.foldl (stepF key) none = none := by
      intro l
      induction l with
      | nil => intro _; rfl
      | cons a l ih =>
        intro hl
        rw [List.foldl_cons]
        have e : stepF key none a = none := by unfold stepF; rw [if_neg (hl a (.head _))]
        rw [e]
        exact ih fun x hx => hl x (.tail _ hx)
    exact (this L h).symm
  | some x =>
    obtain ⟨hm, A, B, rfl, hA, hB⟩ := h
    unfold findF
    rw [List.foldl_append, List.foldl_cons]
    have lo := findF_low (key := key) (x := x) A none hA (fun b hb => by cases hb)
    have e : stepF key (A.foldl (stepF key) none) x = some x := by
      generalize A.foldl (stepF key) none = o at lo
      unfold stepF
      rw [if_pos hm]
      cases o with
      | none => rfl
      | some b => dsimp only; rw [if_pos (lo b rfl)]
    rw [e, findF_stay B hB]
/-! ### Groups, by masks -/
def masksF : List ItN → List ByteArray
  | [] => []
  | x :: l => x.mask :: (masksF l).filter fun m => decide (m ≠ x.mask)
theorem mem_masksF {m : ByteArray} : ∀ {L : List ItN}, m ∈ masksF L ↔ ∃ x ∈ L, x.mask = m
  | [] => by simp [masksF]
  | x :: l => by
    show m ∈ x.mask :: _ ↔ _
    rw [List.mem_cons, List.mem_filter, mem_masksF (L := l)]
    constructor
    · rintro (rfl | ⟨⟨y, hy, e⟩, _⟩)
      · exact ⟨x, .head _, rfl⟩
      · exact ⟨y, .tail _ hy, e⟩
    · rintro ⟨y, hy, e⟩
      rcases List.mem_cons.1 hy with rfl | hy
      · exact .inl e.symm
      · by_cases c : m = x.mask
        · exact .inl c
        · exact .inr ⟨⟨y, hy, e⟩, decide_eq_true c⟩
theorem masksF_one : ∀ L : List ItN, (masksF L).Pairwise fun a b => a ≠ b
  | [] => .nil
  | x :: l => List.pairwise_cons.2 ⟨fun m hm => by
      have := (List.mem_filter.1 hm).2
      have h := of_decide_eq_true this
      exact fun e => h e.symm, (masksF_one l).filter _⟩
def topF : List ItN → ByteArray → Int
  | [], _ => 0
  | x :: l, m => if x.mask = m then (if ∃ y ∈ l, y.mask = m then max x.prio (topF l m) else x.prio) else topF l m
theorem topF_is {m : ByteArray} : ∀ {L : List ItN}, (∃ x ∈ L, x.mask = m) → IsTop L m (topF L m)
  | [], h => by obtain ⟨x, hx, _⟩ := h; cases hx
  | a :: l, h => by
    unfold topF
    by_cases c : a.mask = m
    · rw [if_pos c]
      by_cases d : ∃ y ∈ l, y.mask = m
      · rw [if_pos d]
        obtain ⟨⟨x, hx, e1, e2⟩, hall⟩ := topF_is d
        refine ⟨?_, fun y hy hm => ?_⟩
        · by_cases g : a.prio ≤ topF l m
          · exact ⟨x, .tail _ hx, e1, by rw [e2]; omega⟩
          · exact ⟨a, .head _, c, by omega⟩
        · rcases List.mem_cons.1 hy with rfl | hy
          · omega
          · have := hall y hy hm; omega
      · rw [if_neg d]
        refine ⟨⟨a, .head _, c, rfl⟩, fun y hy hm => ?_⟩
        rcases List.mem_cons.1 hy with rfl | hy
        · exact Int.le_refl _
        · exact absurd ⟨y, hy, hm⟩ d
    · rw [if_neg c]
      have d : ∃ y ∈ l, y.mask = m := by
        obtain ⟨y, hy, e⟩ := h
        rcases List.mem_cons.1 hy with rfl | hy
        · exact absurd e c
        · exact ⟨y, hy, e⟩
      obtain ⟨⟨x, hx, e1, e2⟩, hall⟩ := topF_is d
      refine ⟨⟨x, .tail _ hx, e1, e2⟩, fun y hy hm => ?_⟩
      rcases List.mem_cons.1 hy with rfl | hy
      · exact absurd hm c
      · exact hall y hy hm
theorem isTop_one {L : List ItN} {m : ByteArray} {a b : Int} (h : IsTop L m a) (k : IsTop L m b) : a = b := by
  obtain ⟨⟨x, hx, e1, e2⟩, h2⟩ := h
  obtain ⟨⟨y, hy, f1, f2⟩, k2⟩ := k
  have := h2 y hy f1
  have := k2 x hx e1
  omega
def headsF (L : List ItN) : List (ByteArray × Int) := (masksF L).map fun m => (m, topF L m)
theorem headsF_is (L : List ItN) : Heads L (headsF L) where
  one := by
    unfold headsF
    rw [List.pairwise_map]
    exact masksF_one L
  iff_ m t := by
    unfold headsF
    rw [List.mem_map]
    constructor
    · rintro ⟨m', hm, e⟩
      obtain ⟨rfl, rfl⟩ : m' = m ∧ topF L m' = t := by simpa using e
      exact topF_is (mem_masksF.1 hm)
    · intro h
      have hm : ∃ x ∈ L, x.mask = m := by obtain ⟨⟨x, hx, e, _⟩, _⟩ := h; exact ⟨x, hx, e⟩
      exact ⟨m, mem_masksF.2 hm, by rw [isTop_one (topF_is hm) h]⟩
theorem heads_perm {L : List ItN} {a b : List (ByteArray × Int)} (ha : Heads L a) (hb : Heads L b) : a.Perm b := by
  have nd : ∀ {l : List (ByteArray × Int)}, Heads L l → l.Nodup := fun h => h.one.imp fun {x y} q e => q (by rw [e])
  exact (List.perm_ext_iff_of_nodup (nd ha) (nd hb)).2 fun ⟨m, t⟩ => (ha.iff_ m t).trans (hb.iff_ m t).symm
def openF (key : ByteArray) (L : List ItN) (h : ByteArray × Int) : Bool := decide (∀ x ∈ L, MatchN x key → x.prio ≤ h.2)
def looksF (key : ByteArray) (L : List ItN) : Nat := (headsF L).countP (openF key L)
theorem looks_eq {L : List ItN} {key : ByteArray} {n : Nat} (h : LooksE L key n) : n = looksF key L := by
  obtain ⟨A, B, hd, hA, hB, rfl⟩ := h
  unfold looksF
  rw [← (heads_perm hd (headsF_is L)).countP_eq, List.countP_append]
  have a : A.countP (openF key L) = A.length := List.countP_eq_length.2 fun x hx => decide_eq_true (hA x hx)
  have b : B.countP (openF key L) = 0 := List.countP_eq_zero.2 fun x hx c => by
    obtain ⟨y, hy, hm, l⟩ := hB x hx
    have := of_decide_eq_true c y hy hm
    omega
  omega
theorem masks_eq {L : List ItN} {n : Nat} (h : MasksE L n) : n = (masksF L).length := by
  obtain ⟨hs, hd, rfl⟩ := h
  rw [(heads_perm hd (headsF_is L)).length_eq]
  unfold headsF
  rw [List.length_map]
/-! ### The same items, in another row -/
theorem looksF_mem {L M : List ItN} (h : ∀ x, x ∈ L ↔ x ∈ M) (key : ByteArray) : looksF key L = looksF key M := by
  have t : ∀ m t, IsTop L m t ↔ IsTop M m t := fun m t => by
    unfold IsTop
    simp only [h]
  have hd : Heads M (headsF L) := ⟨(headsF_is L).one, fun m s => ((headsF_is L).iff_ m s).trans (t m s)⟩
  unfold looksF
  rw [(heads_perm hd (headsF_is M)).countP_eq]
  refine List.countP_congr fun x hx => ?_
  unfold openF
  simp only [h]
theorem masksF_mem {L M : List ItN} (h : ∀ x, x ∈ L ↔ x ∈ M) : (masksF L).length = (masksF M).length := by
  have nd : ∀ l, (masksF l).Nodup := masksF_one
  refine ((List.perm_ext_iff_of_nodup (nd L) (nd M)).2 fun m => ?_).length_eq
  rw [mem_masksF, mem_masksF]
  simp only [h]
/-! ### Contracts -/
theorem ulooks_o {V w : World} {Ls : List Thing} {s : SetN} {L : List ItN} {N : Nat} (hl : SetL s L N) (hN : N < 99990) {key : ByteArray} (hk : key.size < 1000000) (H : Own V w Ls) (hm : ∀ t ∈ s.things, t ∈ Ls) {j : Nat} (hj : looksF key L = j) :
    Calls Try.prog 19 #[.pointer (some ⟨s.A, 0, none⟩), .string key] w fun e w' => e = .returned (.int .i64 (j : Int)) ∧ Wider w w' := by
  obtain ⟨n, h1, h2⟩ := ulooks_g hl hN hk
  rw [← hj, ← looks_eq h1]
  exact h2 H hm
theorem ufind_o {V w : World} {Ls : List Thing} {s : SetN} {L : List ItN} {N : Nat} (hl : SetL s L N) (hN : N < 99990) {key : ByteArray} (hk : key.size < 1000000) (H : Own V w Ls) (hm : ∀ t ∈ s.things, t ∈ Ls) {r : Option ItN} (hr : findF key L = r) :
    Calls Try.prog 18 #[.pointer (some ⟨s.A, 0, none⟩), .string key] w fun e w' => e = .returned (.tuple #[aggI (r.getD zeroI), .bool r.isSome]) ∧ Wider w w' := by
  obtain ⟨n, h1, h2⟩ := ufind_g hl hN hk
  rw [← hr, ← find_eq h1]
  exact h2 H hm
theorem umasks_o {V w : World} {Ls : List Thing} {s : SetN} {L : List ItN} {N : Nat} (hl : SetL s L N) (H : Own V w Ls) (hm : ∀ t ∈ s.things, t ∈ Ls) {j : Nat} (hj : (masksF L).length = j) :
    Calls Try.prog 16 #[.pointer (some ⟨s.A, 0, none⟩)] w fun e w' => e = .returned (.int .i64 (j : Int)) ∧ w = w' := by
  rw [← hj, ← masks_eq (masks_of hl.good hl.all)]
  exact umasks_c H hm hl
theorem uget3 (w : World) (key mask : ByteArray) (prio v : Int) : (w.alloc (.cells #[.string key, .string mask, .int .i64 prio, .int .i64 v] 26)).cell? ⟨w.heap.size, 3, none⟩ = some (.int .i64 v) := by rw [World.cell?_alloc_new]; simp
set_option maxRecDepth 20000 in
set_option maxHeartbeats 4000000 in
/-- What the helper found tells, where it is so. -/
theorem ufound_c {V w : World} {Ls : List Thing} {s : SetN} {L : List ItN} {N : Nat} (hl : SetL s L N) (hN : N < 99990) {key : ByteArray} (hk : key.size < 1000000) (H : Own V w Ls) (hm : ∀ t ∈ s.things, t ∈ Ls) {v j : Int} (hj : ((looksF key L : Nat) : Int) = j) (hv : (findF key L = none ∧ v < 0) ∨ ∃ x, findF key L = some x ∧ x.v = v ∧ 0 ≤ v) :
    Calls Try.prog 13 #[.pointer (some ⟨s.A, 0, none⟩), .string key, .int .i64 v, .int .i64 j] w fun e w' => e = .returned (.bool true) ∧ Own V w' Ls := by
  subst hj
  obtain ⟨S, hS⟩ : ∃ S, s.A = S := ⟨_, rfl⟩
  have zl := fun (W : World) (g : Wider w W) => ulooks_o hl hN hk (H.quiet g) hm rfl
  obtain ⟨n, hn⟩ : ∃ n, looksF key L = n := ⟨_, rfl⟩
  rw [hn, hS] at zl
  rw [hn, hS]
  have G := Wider.refl w
  rcases hv with ⟨hf, hv⟩ | ⟨⟨k0, m0, p0, v0⟩, hf, e, hv⟩
  · have zf := ufind_o hl hN hk H hm hf
    rw [hS] at zf
    have zf : Calls Try.prog 18 #[.pointer (some ⟨S, 0, none⟩), .string key] w fun e w' => e = .returned (.tuple #[.agg #[.string ⟨#[]⟩, .string ⟨#[]⟩, .int .i64 0, .int .i64 0], .bool false]) ∧ Wider w w' := zf
    have i0 : decide (0 ≤ v) = false := decide_eq_false (by omega)
    have i1 : ¬ (0 ≤ v) := by omega
    have HH := Lib.hid H
    clear hl hk hm hn hf hS hN H
    go_enter Try.func13, Try.ntmps13
    go_upto_region 2 with (first
      | (go_at_call 18; ((with_reducible refine zf.mono ?_); rintro e w1 ⟨rfl, g⟩; replace G := (G.trans g).alloc (.cells #[.string ⟨#[]⟩, .string ⟨#[]⟩, .int .i64 0, .int .i64 0] 26); have d := uget3 w1 ⟨#[]⟩ ⟨#[]⟩ 0 0; clear zf g)))
    go_wp2_with (first
      | (go_at_call 19; ((with_reducible refine (zl _ G).mono ?_); rintro e w2 ⟨rfl, g⟩; replace G := G.trans g; clear zl g)))
    go_ret
    exact ⟨rfl, HH.out.quiet G⟩
  · have zf := ufind_o hl hN hk H hm hf
    subst e
    rw [hS] at zf
    have zf : Calls Try.prog 18 #[.pointer (some ⟨S, 0, none⟩), .string key] w fun e w' => e = .returned (.tuple #[.agg #[.string k0, .string m0, .int .i64 p0, .int .i64 v0], .bool true]) ∧ Wider w w' := zf
    have hv : (0 : Int) ≤ v0 := hv
    show Calls Try.prog 13 #[.pointer (some ⟨S, 0, none⟩), .string key, .int .i64 v0, .int .i64 (n : Int)] w _
    have i0 : decide (0 ≤ v0) = true := decide_eq_true hv
    have HH := Lib.hid H
    clear hl hk hm hn hf hS hN H
    go_enter Try.func13, Try.ntmps13
    go_upto_region 2 with (first
      | (go_at_call 18; ((with_reducible refine zf.mono ?_); rintro e w1 ⟨rfl, g⟩; replace G := (G.trans g).alloc (.cells #[.string k0, .string m0, .int .i64 p0, .int .i64 v0] 26); have d := uget3 w1 k0 m0 p0 v0; clear zf g)))
    go_wp2_with (first
      | (go_at_call 19; ((with_reducible refine (zl _ G).mono ?_); rintro e w2 ⟨rfl, g⟩; replace G := G.trans g; clear zl g)))
    go_ret
    exact ⟨rfl, HH.out.quiet G⟩

end Go.Proofs.Ytjjgdnaejeejlaa
