/- Package tern: a group's calls that read, and that take out: by walks of its code. -/
import Derived.Test.YtjjgdnaejeejlaaUCodeC
import Derived.Test.YtjjgdnaejeejlaaUCodeE
namespace Go.Proofs.Ytjjgdnaejeejlaa
set_option linter.unusedVariables false
open Go.ChangeShapes Go.WideShapes Go.ChangeAt Go.RowKit Go.Joins Go.Maps Go.ChangeMaps

/-! ### A row within a group, in memory -/
abbrev nilU : Value := .slice none 0 0
theorem row_look {w : World} {g : GrpN} (h : GrpAt w g) (hk : KeysR g.rows) (k : ByteArray) : ∃ u, LookE (entR g.rows) k nilU u ∧ w.ownsRow 0 63 5 u (getR g.rows k).length (cellsP (getR g.rows k)) := by
  rcases row_or g.rows k with ⟨r, hr, rfl⟩ | hn
  · exact ⟨r.val, look_row hr _, by rw [(getR_some hk hr).1]; exact h.rows r hr⟩
  · exact ⟨nilU, look_none hn _, by rw [(getR_none hn).1]; exact World.ownsRow_nil _ _ _ _⟩
theorem Own.focus {V w : World} {R : List Thing} {g : GrpN} (H : Own V w (g.things ++ R)) (hk : KeysR g.rows) (k : ByteArray) :
    ∃ u, LookE (entR g.rows) k nilU u ∧ Own V w (rowP u (getR g.rows k).length (getR g.rows k) :: blkG g :: prT g :: mapT g.M (entR g.rows) :: ((dropR g.rows k).map rowThing ++ R)) := by
  rcases row_or g.rows k with ⟨r, hr, rfl⟩ | hn
  · refine ⟨r.val, look_row hr _, ?_⟩
    rw [(getR_some hk hr).1]
    refine H.perm ?_
    have p := (rows_at hk hr).append_right R
    refine ((p.cons _).cons _ |>.cons _).trans ?_
    exact ((List.Perm.swap _ _ _).cons _ |>.cons _).trans (((List.Perm.swap _ _ _).cons _).trans (List.Perm.swap _ _ _))
  · refine ⟨nilU, look_none hn _, ?_⟩
    rw [(getR_none hn).1, (getR_none hn).2]
    exact H.row (Wider.refl w) (World.ownsRow_nil _ _ _ _)
theorem Own.third4 {V w : World} {a b c d : Thing} {L : List Thing} (h : Own V w (a :: b :: c :: d :: L)) : Own V w (b :: c :: d :: a :: L) :=
  h.perm ((List.Perm.swap _ _ _).trans (((List.Perm.swap _ _ _).trans ((List.Perm.swap _ _ _).cons _)).cons _))
/-- .. and back, with another row there. -/
theorem Own.unfocus {V w : World} {R : List Thing} {g : GrpN} {k : ByteArray} {u v : Value} {pr : List Int} {ps : List PlN}
    (H : Own V w (rowP u ps.length ps :: blkT g.b #[.string g.mask, .map (some g.M), v] 70 :: rowT 3 1 v pr.length (intsU pr) :: mapT g.M (putE (entR g.rows) k u) :: ((dropR g.rows k).map rowThing ++ R))) :
    Own V w (({ g with rows := setR g.rows k u ps, prv := v, pr := pr } : GrpN).things ++ R) := by
  have h := H.third4
  unfold GrpN.things
  show Own V w (_ :: _ :: mapT g.M (entR (setR g.rows k u ps)) :: (rowThing ⟨k, u, ps⟩ :: (dropR g.rows k).map rowThing) ++ R)
  rw [entR_set]
  exact h
theorem Own.unfocus_gone {V w : World} {R : List Thing} {g : GrpN} {k : ByteArray} {v : Value} {pr : List Int} {t : Thing}
    (H : Own V w (t :: blkT g.b #[.string g.mask, .map (some g.M), v] 70 :: rowT 3 1 v pr.length (intsU pr) :: mapT g.M (dropE (entR g.rows) k) :: ((dropR g.rows k).map rowThing ++ R))) :
    Own V w (({ g with rows := dropR g.rows k, prv := v, pr := pr } : GrpN).things ++ R) := by
  have h := H.drop
  unfold GrpN.things
  show Own V w (_ :: _ :: mapT g.M (entR (dropR g.rows k)) :: (dropR g.rows k).map rowThing ++ R)
  rw [entR_drop]
  exact h
theorem putE_drop {E : EntU} {k : ByteArray} (u : Value) : dropE (putE E k u) k = dropE E k := by
  unfold putE dropE
  rw [List.filter_cons, if_neg (by simp), List.filter_filter]
  congr 1
  funext e
  simp

set_option maxRecDepth 20000 in
theorem ubs_c {w : World} {v : Value} {pr X Y : List Int} {n : Nat} (h : w.ownsRow 0 3 1 v n (intsU pr)) (hn : pr.length = n) (hl : n < 1000000) {q : Int} (ha : pr.Pairwise (· ≤ ·)) (e : pr = X ++ Y) (hX : ∀ x ∈ X, x < q) (hY : ∀ x ∈ Y, q ≤ x) :
    Calls Try.prog 45 #[v, .int .i64 q] w fun e w' => (∃ b, e = .returned (.tuple #[.int .i64 (X.length : Int), .bool b])) ∧ Wider w w' := by
  by_cases c : 0 < n
  · obtain ⟨B, cap, rfl, hc⟩ := row_slice h c
    have z := Try.slices_BinarySearch_int B 0 n cap pr q w (by omega) (by omega) (fun j hj => by
      rw [Nat.zero_add]
      refine hc j _ ?_
      unfold intsU
      rw [List.getElem?_map, List.getElem?_eq_getElem hj, List.getD_eq_getElem?_getD, List.getElem?_eq_getElem hj]
      rfl) (by rw [← hn, List.take_length]; exact ha)
    have t : pr.take n = X ++ Y := by rw [← hn, List.take_length, e]
    have ct : (X ++ Y).countP (· < q) = X.length := lower_count hX hY
    obtain ⟨b0, hb0⟩ : ∃ b0, (X ++ Y).contains q = b0 := ⟨_, rfl⟩
    rw [t, ct, hb0] at z
    refine z.mono ?_
    rintro e w' ⟨h1, d, h2⟩
    exact ⟨⟨b0, h1⟩, by rw [h2]; exact (Wider.refl w).drewN d⟩
  · obtain rfl : n = 0 := by omega
    obtain rfl : pr = [] := List.eq_nil_of_length_eq_zero hn
    obtain ⟨rfl, rfl⟩ : X = [] ∧ Y = [] := List.append_eq_nil_iff.1 e.symm
    obtain ⟨B, cap, rfl⟩ := ownsRow_shape h
    refine (Try.slices_BinarySearch_int_empty B cap q w).mono ?_
    rintro e w' ⟨h1, h2⟩
    exact ⟨⟨false, h1⟩, by rw [h2]; exact Wider.refl w⟩

/-! ### Calls that read -/
theorem uhas_nil (k : ByteArray) (q : Int) (w : World) : Calls Try.prog 32 #[.pointer none, .string k, .int .i64 q] w fun e w' => e = .returned (.bool false) ∧ w = w' := by
  go_enter Try.func32, Try.ntmps32
  go_wp2
  go_ret
  exact ⟨rfl, rfl⟩
set_option maxRecDepth 20000 in
theorem uhas_c {w : World} {g : GrpN} (h : GrpAt w g) (hk : KeysR g.rows) {k : ByteArray} (hs : k.size < 1000000) (hl : (getR g.rows k).length < 1000000) {q : Int} {A B : List PlN} {had : Bool} (r : RankN (getR g.rows k) q A B had) :
    Calls Try.prog 32 #[ptrU g.b, .string k, .int .i64 q] w fun e w' => e = .returned (.bool had) ∧ Wider w w' := by
  obtain ⟨u, hu, ho⟩ := row_look h hk k
  have zr := urank_c ho rfl hl q r
  have c1 := blk_cell h.blk 1 (v := .map (some g.M)) rfl
  have lk := look_u (t := 67) (e := 73) (z := nilU) Try.underlying67 (Try.zeroValue73 w) h.map hs hu
  obtain ⟨b, hb⟩ : ∃ b, g.b = b := ⟨_, rfl⟩
  obtain ⟨M, hM⟩ : ∃ M, g.M = M := ⟨_, rfl⟩
  obtain ⟨n, hn⟩ : ∃ n, A.length = n := ⟨_, rfl⟩
  obtain ⟨B0, cap, rfl⟩ := ownsRow_shape ho
  obtain ⟨m, hm⟩ : ∃ m, (getR g.rows k).length = m := ⟨_, rfl⟩
  rw [hb, hM] at c1
  rw [hM, hm] at lk
  rw [hn, hm] at zr
  rw [hb]
  clear h hk hs hl r hu ho hb hM hn hm
  show Calls Try.prog 32 #[.pointer (some ⟨b, 0, none⟩), .string k, .int .i64 q] w _
  go_enter Try.func32, Try.ntmps32
  go_wp2_with (first
    | (go_at_call 43; ((with_reducible refine zr.mono ?_); rintro e w1 ⟨rfl, H⟩)))
  go_ret
  exact ⟨rfl, H⟩

theorem store5 {V w : World} {L : List Thing} {B : Nat} {C : Array Value} {t : TypeId} (H : Own V w (blkT B C t :: L)) (a b c d e : Value) :
    Wider V (((((w.setCell ⟨B, 0, none⟩ a).setCell ⟨B, 1, none⟩ b).setCell ⟨B, 2, none⟩ c).setCell ⟨B, 3, none⟩ d).setCell ⟨B, 4, none⟩ e) :=
  (((((H.store 0 a).store 1 b).store 2 c).store 3 d).store 4 e).wider
def zeroP : PlN := ⟨⟨⟨#[]⟩, ⟨#[]⟩, 0, 0⟩, 0⟩
/-- What is found in a group. -/
def findG (g : GrpN) (key : ByteArray) : Option PlN := if key.size = g.mask.size then (getR g.rows (underB key g.mask)).head? else none
set_option maxRecDepth 20000 in
set_option maxHeartbeats 4000000 in
theorem ufind_c {w : World} {g : GrpN} (h : GrpAt w g) (hk : KeysR g.rows) {key : ByteArray} (hs : key.size < 1000000) {p : PlN} {is : Bool} (hf : (findG g key = some p ∧ is = true) ∨ (findG g key = none ∧ p = zeroP ∧ is = false)) :
    Calls Try.prog 51 #[ptrU g.b, .string key] w fun e w' => e = .returned (.tuple #[aggP p, .bool is]) ∧ Wider w w' := by
  have c0 := blk_cell h.blk 0 (v := .string g.mask) rfl
  have c1 := blk_cell h.blk 1 (v := .map (some g.M)) rfl
  obtain ⟨b, hb⟩ : ∃ b, g.b = b := ⟨_, rfl⟩
  have H : Own w (w.alloc (.cells #[.string ⟨#[]⟩, .string ⟨#[]⟩, .int .i64 0, .int .i64 0, .int .i64 0] 63)) [blkT w.heap.size #[.string ⟨#[]⟩, .string ⟨#[]⟩, .int .i64 0, .int .i64 0, .int .i64 0] 63] := (Own.nil (Wider.refl w)).blk _ _
  obtain ⟨W0, hW0⟩ : ∃ W0, w.alloc (.cells #[.string ⟨#[]⟩, .string ⟨#[]⟩, .int .i64 0, .int .i64 0, .int .i64 0] 63) = W0 := ⟨_, rfl⟩
  obtain ⟨B, hB⟩ : ∃ B, w.heap.size = B := ⟨_, rfl⟩
  have d0 := kalloc (o := .cells #[.string ⟨#[]⟩, .string ⟨#[]⟩, .int .i64 0, .int .i64 0, .int .i64 0] 63) c0
  rw [hW0, hB] at H
  rw [hW0] at d0
  have d1 := wkeep H.wider c1
  rw [hb] at d0 d1 ⊢
  have HH := Lib.hid h
  have fin : ∀ k : ByteArray, k.size < 1000000 → ∃ u, (∀ W, Wider w W → (Instr.lookup 67 (.map (some g.M)) (.string k) false).run Try.prog W = .ok u W) ∧ w.ownsRow 0 63 5 u (getR g.rows k).length (cellsP (getR g.rows k)) := fun k hks => by
    obtain ⟨u, hu, ho⟩ := row_look h hk k
    exact ⟨u, fun W kw => look_u (t := 67) (e := 73) (z := nilU) Try.underlying67 (Try.zeroValue73 W) (h.map.on kw) hks hu, ho⟩
  have FIN := Lib.hid fin
  clear fin h hk c0 c1 hb
  show Calls Try.prog 51 #[.pointer (some ⟨b, 0, none⟩), .string key] w _
  by_cases e : key.size = g.mask.size
  · have zu := uunder_c key g.mask hs (.inl ⟨e, rfl, rfl⟩)
    obtain ⟨k, hkk⟩ : ∃ k, underB key g.mask = k := ⟨_, rfl⟩
    unfold findG at hf
    rw [if_pos e, hkk] at hf
    obtain ⟨u, lk, ho⟩ := FIN.out k (by rw [← hkk, underB_size]; exact hs)
    rw [hkk] at zu
    obtain ⟨B0, cap, rfl⟩ := ownsRow_shape ho
    obtain ⟨M, hM⟩ : ∃ M, g.M = M := ⟨_, rfl⟩
    obtain ⟨mask, hmask⟩ : ∃ mask, g.mask = mask := ⟨_, rfl⟩
    rw [hM] at lk d1
    rw [hmask] at zu d0
    cases hps : getR g.rows k with
    | nil =>
      rw [hps] at hf lk
      obtain ⟨rfl, rfl⟩ : p = zeroP ∧ is = false := by
        rcases hf with ⟨q, _⟩ | ⟨_, q⟩
        · cases q
        · exact q
      simp only [List.length_nil] at lk
      clear hf hs e hkk ho hM hmask hps FIN HH
      show Calls _ _ _ _ fun e w' => e = .returned (.tuple #[.agg #[.string ⟨#[]⟩, .string ⟨#[]⟩, .int .i64 0, .int .i64 0, .int .i64 0], .bool false]) ∧ Wider w w'
      have LK := Lib.hid lk
      clear lk
      go_enter Try.func51, Try.ntmps51
      try rw [hW0]
      try rw [hB]
      go_wp2_with (first
        | (go_at_call 26; ((with_reducible refine (zu _).mono ?_); rintro e w1 ⟨rfl, g1⟩; have H1 := H.quiet g1; have x1 := wkeep g1 d1; have lk := LK.out _ H1.wider; have y0 := blk_cell H1.head 0 (v := .string ⟨#[]⟩) rfl; have y1 := blk_cell H1.head 1 (v := .string ⟨#[]⟩) rfl; have y2 := blk_cell H1.head 2 (v := .int .i64 0) rfl; have y3 := blk_cell H1.head 3 (v := .int .i64 0) rfl; have y4 := blk_cell H1.head 4 (v := .int .i64 0) rfl; have f0 := blk_free H1.head 0; have f1 := blk_free H1.head 1; have f2 := blk_free H1.head 2; have f3 := blk_free H1.head 3; have f4 := blk_free H1.head 4; clear H g1)))
      simp [bodyPost, results, Try.results51, go_sem, y0, y1, y2, y3, y4]
      exact store5 H1 _ _ _ _ _
    | cons p0 ps =>
      rw [hps] at hf lk ho
      obtain ⟨rfl, rfl⟩ : p0 = p ∧ is = true := by
        rcases hf with ⟨q, r⟩ | ⟨q, _⟩
        · exact ⟨by simpa using q, r⟩
        · cases q
      obtain ⟨B1, cap1, e1, hc⟩ := row_slice ho (by simp)
      injection e1 with e1 e2 e3
      subst e1
      obtain ⟨n, hn⟩ : ∃ n, (p0 :: ps).length = n := ⟨_, rfl⟩
      have n1 : 0 < n := by rw [← hn]; simp
      have n2 : ((n : Int) == 0) = false := by rw [beq_eq_false_iff_ne]; omega
      have n3 : (0 : Int) < (n : Int) := by omega
      rw [hn] at lk
      obtain ⟨k0, k1, k2, k3, k4⟩ := row_item hc (j := 0) (p := p0) rfl
      simp only [Nat.zero_mul, Nat.zero_add] at k0 k1 k2 k3 k4
      clear hf hs e hkk ho hM hmask hps FIN HH hc hn
      obtain ⟨⟨key0, mask0, prio0, v0⟩, pl0⟩ := p0
      show Calls _ _ _ _ fun e w' => e = .returned (.tuple #[.agg #[.string key0, .string mask0, .int .i64 prio0, .int .i64 v0, .int .i64 (pl0 : Int)], .bool true]) ∧ Wider w w'
      simp only at k0 k1 k2 k3 k4
      have LK := Lib.hid lk
      have KK := Lib.hid (And.intro k0 (And.intro k1 (And.intro k2 (And.intro k3 k4))))
      clear lk k0 k1 k2 k3 k4
      go_enter Try.func51, Try.ntmps51
      try rw [hW0]
      try rw [hB]
      go_wp2_with (first
        | (go_at_call 26; ((with_reducible refine (zu _).mono ?_); rintro e w1 ⟨rfl, g1⟩; have H1 := H.quiet g1; have x1 := wkeep g1 d1; have lk := LK.out _ H1.wider; have k0 := wkeep H1.wider KK.out.1; have k1 := wkeep H1.wider KK.out.2.1; have k2 := wkeep H1.wider KK.out.2.2.1; have k3 := wkeep H1.wider KK.out.2.2.2.1; have k4 := wkeep H1.wider KK.out.2.2.2.2; have y0 := blk_cell H1.head 0 (v := .string ⟨#[]⟩) rfl; have y1 := blk_cell H1.head 1 (v := .string ⟨#[]⟩) rfl; have y2 := blk_cell H1.head 2 (v := .int .i64 0) rfl; have y3 := blk_cell H1.head 3 (v := .int .i64 0) rfl; have y4 := blk_cell H1.head 4 (v := .int .i64 0) rfl; have f0 := blk_free H1.head 0; have f1 := blk_free H1.head 1; have f2 := blk_free H1.head 2; have f3 := blk_free H1.head 3; have f4 := blk_free H1.head 4; clear H g1)))
      simp [bodyPost, results, Try.results51, go_sem, y0, y1, y2, y3, y4]
      exact store5 H1 _ _ _ _ _
  · have zu := uunder_c key g.mask hs (.inr ⟨e, rfl, rfl⟩)
    unfold findG at hf
    rw [if_neg e] at hf
    obtain ⟨u, lk, ho⟩ := FIN.out ⟨#[]⟩ (by decide)
    obtain ⟨B0, cap, rfl⟩ := ownsRow_shape ho
    obtain ⟨M, hM⟩ : ∃ M, g.M = M := ⟨_, rfl⟩
    obtain ⟨mask, hmask⟩ : ∃ mask, g.mask = mask := ⟨_, rfl⟩
    obtain ⟨n, hn⟩ : ∃ n, (getR g.rows ⟨#[]⟩).length = n := ⟨_, rfl⟩
    rw [hM] at lk d1
    rw [hn] at lk
    rw [hmask] at zu d0
    obtain ⟨rfl, rfl⟩ : p = zeroP ∧ is = false := by
      rcases hf with ⟨q, _⟩ | ⟨_, q⟩
      · cases q
      · exact q
    clear hf hs e ho hM hmask hn FIN HH
    show Calls _ _ _ _ fun e w' => e = .returned (.tuple #[.agg #[.string ⟨#[]⟩, .string ⟨#[]⟩, .int .i64 0, .int .i64 0, .int .i64 0], .bool false]) ∧ Wider w w'
    have LK := Lib.hid lk
    clear lk
    go_enter Try.func51, Try.ntmps51
    try rw [hW0]
    try rw [hB]
    go_wp2_with (first
      | (go_at_call 26; ((with_reducible refine (zu _).mono ?_); rintro e w1 ⟨rfl, g1⟩; have H1 := H.quiet g1; have x1 := wkeep g1 d1; have lk := LK.out _ H1.wider; have y0 := blk_cell H1.head 0 (v := .string ⟨#[]⟩) rfl; have y1 := blk_cell H1.head 1 (v := .string ⟨#[]⟩) rfl; have y2 := blk_cell H1.head 2 (v := .int .i64 0) rfl; have y3 := blk_cell H1.head 3 (v := .int .i64 0) rfl; have y4 := blk_cell H1.head 4 (v := .int .i64 0) rfl; have f0 := blk_free H1.head 0; have f1 := blk_free H1.head 1; have f2 := blk_free H1.head 2; have f3 := blk_free H1.head 3; have f4 := blk_free H1.head 4; clear H g1)))
    simp [bodyPost, results, Try.results51, go_sem, y0, y1, y2, y3, y4]
    exact store5 H1 _ _ _ _ _

end Go.Proofs.Ytjjgdnaejeejlaa
