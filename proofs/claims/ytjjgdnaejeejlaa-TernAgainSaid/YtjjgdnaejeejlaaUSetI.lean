/- Package tern: what a set is asked, and nobody's set: by walks of its code. -/
import Derived.Test.YtjjgdnaejeejlaaUSetH
namespace Go.Proofs.Ytjjgdnaejeejlaa
set_option linter.unusedVariables false
open Go.ChangeShapes Go.WideShapes Go.ChangeAt Go.RowKit Go.Joins Go.Maps Go.ChangeMaps

theorem unew_1 {V w : World} {R : List Thing} (H : Own V w R) : Calls Try.prog 12 #[] w fun e w' => ∃ s : SetN, e = .returned (.pointer (some ⟨s.A, 0, none⟩)) ∧ Own V w' (s.things ++ R) ∧ SetL s [] 0 := by
  have H1 := H.blk #[.map none, .slice none 0 0, .int .i64 0, .int .i64 0] 57
  have HH := Lib.hid H1
  clear H H1
  go_enter Try.func12, Try.ntmps12
  go_wp2
  go_ret
  refine ⟨⟨w.heap.size, none, nilU, [], 0, 0⟩, rfl, ?_, ⟨⟨by simp, .nil, .nil, rfl, .nil, by simp [flatS], by simp [flatS], fun _ => rfl⟩, ⟨[], List.Perm.nil, .nil, rfl⟩, by simp, Nat.le_refl _, Nat.le_refl _⟩⟩
  have h := HH.out
  have h2 := (h.row (Wider.refl _) (World.ownsRow_nil _ _ 58 1)).swap
  refine ((h2.make (s := gmT none []) (Wider.refl _) trivial (fun _ _ _ _ => trivial) (fun i hi => (by cases hi))).perm ?_)
  exact ((List.Perm.swap _ _ _).trans ((List.Perm.swap _ _ _).cons _))
theorem ulen_c {V w : World} {Ls : List Thing} {s : SetN} {L : List ItN} {N : Nat} (H : Own V w Ls) (hm : ∀ t ∈ s.things, t ∈ Ls) (hl : SetL s L N) : Calls Try.prog 15 #[.pointer (some ⟨s.A, 0, none⟩)] w fun e w' => e = .returned (.int .i64 (L.length : Int)) ∧ w = w' := by
  have c2 := blk_cell (H.holds _ (hm _ (.head _))) 2 (v := .int .i64 (s.items : Int)) rfl
  rw [len_of hl.good hl.all] at c2
  obtain ⟨S, hS⟩ : ∃ S, s.A = S := ⟨_, rfl⟩
  rw [hS] at c2 ⊢
  clear H hm hl hS
  go_enter Try.func15, Try.ntmps15
  go_wp2
  go_ret
  exact ⟨rfl, rfl⟩
theorem umasks_c {V w : World} {Ls : List Thing} {s : SetN} {L : List ItN} {N : Nat} (H : Own V w Ls) (hm : ∀ t ∈ s.things, t ∈ Ls) (hl : SetL s L N) : Calls Try.prog 16 #[.pointer (some ⟨s.A, 0, none⟩)] w fun e w' => e = .returned (.int .i64 (s.gs.length : Int)) ∧ w = w' := by
  have c0 := blk_cell (H.holds _ (hm _ (.head _))) 0 (v := .map s.gm) rfl
  have zl : ∀ ty, (Builtin.len_ #[54] ty #[.map s.gm]).run Try.prog w = .ok (.int .i64 (s.gs.length : Int)) w := fun ty => by
    cases q : s.gm with
    | none =>
      rw [hl.good.gm q]
      exact Maps.len_nil (k := 9) (e := 58) Try.underlying54 ty
    | some M =>
      have h3 : MapAt w M (entG s.gs) := by have k := H.holds (gmT s.gm (entG s.gs)) (hm _ (.tail _ (.tail _ (.head _)))); rw [q] at k; exact k
      have := len_u (t := 54) (e := 58) Try.underlying54 h3 ty
      unfold entG at this
      rwa [List.length_map] at this
  obtain ⟨S, hS⟩ : ∃ S, s.A = S := ⟨_, rfl⟩
  obtain ⟨gm, hgm⟩ : ∃ gm, s.gm = gm := ⟨_, rfl⟩
  obtain ⟨n, hn⟩ : ∃ n, s.gs.length = n := ⟨_, rfl⟩
  rw [hS, hgm] at c0
  rw [hgm, hn] at zl
  rw [hS, hn]
  clear H hm hl hS hgm hn
  go_enter Try.func16, Try.ntmps16
  go_wp2
  go_ret
  exact ⟨rfl, rfl⟩
def zeroI : ItN := ⟨⟨#[]⟩, ⟨#[]⟩, 0, 0⟩
/-- What a search tells. -/
theorem usearch_g {s : SetN} {L : List ItN} {N : Nat} (hl : SetL s L N) (hN : N < 99990) {key : ByteArray} (hk : key.size < 1000000) : ∃ (j : Nat) (o : Option PlN), LooksE L key j ∧ FindE L key (o.map (·.x)) ∧ (∀ p, o = some p → p.x.key.size < 1000000 ∧ p.x.mask.size < 1000000) ∧
    ∀ {V w : World} {Ls : List Thing}, Own V w Ls → (∀ t ∈ s.things, t ∈ Ls) → Calls Try.prog 34 #[.pointer (some ⟨s.A, 0, none⟩), .string key] w fun e w' => e = .returned (.tuple #[aggP (o.getD zeroP), .bool o.isSome, .int .i64 (j : Int)]) ∧ Wider w w' := by
  obtain ⟨j, o, hj, hno, hst, ho, hb, hall⟩ := search_spec hl.good key
  refine ⟨j, o, looks_of hl.good hl.all hj hall, find_of hl.all hb, fun p hp => ?_, fun {V w Ls} H hm => ?_⟩
  · rw [hp] at hb
    exact hl.small p.x ((mem_all hl.all).2 ⟨p, hb.1, rfl⟩)
  · have hr := H.holds _ (hm _ (.tail _ (.head _)))
    refine usearch_c (gm := s.gm) (ov := s.ov) (items := s.items) (last := s.last) (n := s.gs.length) (gs := s.gs) (H.holds _ (hm _ (.head _))) hr rfl (by have := hl.groups; omega) (fun g hg => ⟨grps_at (fun t ht => H.holds t (hm t (.tail _ (.tail _ (.tail _ ht))))) hg, hl.few (by omega) g hg⟩) hk hj hno hst ho
set_option maxRecDepth 20000 in
theorem ulooks_g {s : SetN} {L : List ItN} {N : Nat} (hl : SetL s L N) (hN : N < 99990) {key : ByteArray} (hk : key.size < 1000000) : ∃ j : Nat, LooksE L key j ∧
    ∀ {V w : World} {Ls : List Thing}, Own V w Ls → (∀ t ∈ s.things, t ∈ Ls) → Calls Try.prog 19 #[.pointer (some ⟨s.A, 0, none⟩), .string key] w fun e w' => e = .returned (.int .i64 (j : Int)) ∧ Wider w w' := by
  obtain ⟨j, o, hj, _, _, hc⟩ := usearch_g hl hN hk
  refine ⟨j, hj, fun {V w Ls} H hm => ?_⟩
  have zs := hc H hm
  obtain ⟨S, hS⟩ : ∃ S, s.A = S := ⟨_, rfl⟩
  obtain ⟨⟨⟨k0, m0, p0, v0⟩, n0⟩, hp⟩ : ∃ p, o.getD zeroP = p := ⟨_, rfl⟩
  obtain ⟨is, his⟩ : ∃ is, o.isSome = is := ⟨_, rfl⟩
  rw [hS, hp, his] at zs
  have zs : Calls Try.prog 34 #[.pointer (some ⟨S, 0, none⟩), .string key] w fun e w' => e = .returned (.tuple #[.agg #[.string k0, .string m0, .int .i64 p0, .int .i64 v0, .int .i64 (n0 : Int)], .bool is, .int .i64 (j : Int)]) ∧ Wider w w' := zs
  rw [hS]
  clear hl hN hk hj hc H hm hS hp his
  go_enter Try.func19, Try.ntmps19
  go_wp2_with (first
    | (go_at_call 34; ((with_reducible refine zs.mono ?_); rintro e w1 ⟨rfl, g1⟩; have HW := g1.alloc (.cells #[.string k0, .string m0, .int .i64 p0, .int .i64 v0, .int .i64 (n0 : Int)] 63); clear zs g1)))
  go_ret
  exact ⟨rfl, HW⟩
theorem store4W {V w : World} {L : List Thing} {B : Nat} {C : Array Value} {t : TypeId} (H : Own V w (blkT B C t :: L)) (a b c d : Value) :
    Wider V ((((w.setCell ⟨B, 0, none⟩ a).setCell ⟨B, 1, none⟩ b).setCell ⟨B, 2, none⟩ c).setCell ⟨B, 3, none⟩ d) :=
  ((((H.store 0 a).store 1 b).store 2 c).store 3 d).wider
set_option maxRecDepth 20000 in
set_option maxHeartbeats 4000000 in
theorem ufind_g {s : SetN} {L : List ItN} {N : Nat} (hl : SetL s L N) (hN : N < 99990) {key : ByteArray} (hk : key.size < 1000000) : ∃ r : Option ItN, FindE L key r ∧
    ∀ {V w : World} {Ls : List Thing}, Own V w Ls → (∀ t ∈ s.things, t ∈ Ls) → Calls Try.prog 18 #[.pointer (some ⟨s.A, 0, none⟩), .string key] w fun e w' => e = .returned (.tuple #[aggI (r.getD zeroI), .bool r.isSome]) ∧ Wider w w' := by
  obtain ⟨j, o, _, hf, hsm, hc⟩ := usearch_g hl hN hk
  refine ⟨_, hf, fun {V w Ls} H0 hm => ?_⟩
  have H : Own w (w.alloc (.cells #[.string ⟨#[]⟩, .string ⟨#[]⟩, .int .i64 0, .int .i64 0] 26)) [blkT w.heap.size #[.string ⟨#[]⟩, .string ⟨#[]⟩, .int .i64 0, .int .i64 0] 26] := (Own.nil (Wider.refl w)).blk _ _
  have zs := hc (H0.quiet H.wider) hm
  obtain ⟨S, hS⟩ : ∃ S, s.A = S := ⟨_, rfl⟩
  obtain ⟨B4, hB4⟩ : ∃ B4, w.heap.size = B4 := ⟨_, rfl⟩
  obtain ⟨W0, hW0⟩ : ∃ W0, w.alloc (.cells #[.string ⟨#[]⟩, .string ⟨#[]⟩, .int .i64 0, .int .i64 0] 26) = W0 := ⟨_, rfl⟩
  rw [hW0, hB4] at H
  rw [hW0] at zs
  cases o with
  | none =>
    rw [hS] at zs ⊢
    have zs : Calls Try.prog 34 #[.pointer (some ⟨S, 0, none⟩), .string key] W0 fun e w' => e = .returned (.tuple #[.agg #[.string ⟨#[]⟩, .string ⟨#[]⟩, .int .i64 0, .int .i64 0, .int .i64 0], .bool false, .int .i64 (j : Int)]) ∧ Wider W0 w' := zs
    show Calls _ _ _ _ fun e w' => e = .returned (.tuple #[.agg #[.string ⟨#[]⟩, .string ⟨#[]⟩, .int .i64 0, .int .i64 0], .bool false]) ∧ Wider w w'
    clear hl hN hk hf hc H0 hm hS hsm
    go_enter Try.func18, Try.ntmps18
    try rw [hW0]
    try rw [hB4]
    go_wp2_with (first
      | (go_at_call 34; ((with_reducible refine zs.mono ?_); rintro e w1 ⟨rfl, g1⟩; have H1 := H.quiet (g1.alloc (.cells #[.string ⟨#[]⟩, .string ⟨#[]⟩, .int .i64 0, .int .i64 0, .int .i64 0] 63)); have y0 := blk_cell H1.head 0 (v := .string ⟨#[]⟩) rfl; have y1 := blk_cell H1.head 1 (v := .string ⟨#[]⟩) rfl; have y2 := blk_cell H1.head 2 (v := .int .i64 0) rfl; have y3 := blk_cell H1.head 3 (v := .int .i64 0) rfl; have f0 := blk_free H1.head 0; have f1 := blk_free H1.head 1; have f2 := blk_free H1.head 2; have f3 := blk_free H1.head 3; clear zs g1 H)))
    simp [bodyPost, results, Try.results18, go_sem, y0, y1, y2, y3]
    exact store4W H1 _ _ _ _
  | some p =>
    obtain ⟨⟨k0, m0, p0, v0⟩, n0⟩ := p
    obtain ⟨s1, s2⟩ := hsm _ rfl
    have zo : ∀ W, Calls Try.prog 30 #[.agg #[.string k0, .string m0, .int .i64 p0, .int .i64 v0]] W fun e w' => e = .returned (.agg #[.string k0, .string m0, .int .i64 p0, .int .i64 v0]) ∧ Wider W w' := uown_c ⟨k0, m0, p0, v0⟩ s1 s2
    rw [hS] at zs ⊢
    have zs : Calls Try.prog 34 #[.pointer (some ⟨S, 0, none⟩), .string key] W0 fun e w' => e = .returned (.tuple #[.agg #[.string k0, .string m0, .int .i64 p0, .int .i64 v0, .int .i64 (n0 : Int)], .bool true, .int .i64 (j : Int)]) ∧ Wider W0 w' := zs
    show Calls _ _ _ _ fun e w' => e = .returned (.tuple #[.agg #[.string k0, .string m0, .int .i64 p0, .int .i64 v0], .bool true]) ∧ Wider w w'
    clear hl hN hk hf hc H0 hm hS hsm s1 s2
    go_enter Try.func18, Try.ntmps18
    try rw [hW0]
    try rw [hB4]
    go_wp2_with (first
      | (go_at_call 34; ((with_reducible refine zs.mono ?_); rintro e w1 ⟨rfl, g1⟩; have H1 := H.quiet (g1.alloc (.cells #[.string k0, .string m0, .int .i64 p0, .int .i64 v0, .int .i64 (n0 : Int)] 63)); clear zs g1 H))
      | (go_at_call 30; ((with_reducible refine (zo _).mono ?_); rintro e w2 ⟨rfl, g2⟩; have H2 := H1.quiet g2; have y0 := blk_cell H2.head 0 (v := .string ⟨#[]⟩) rfl; have y1 := blk_cell H2.head 1 (v := .string ⟨#[]⟩) rfl; have y2 := blk_cell H2.head 2 (v := .int .i64 0) rfl; have y3 := blk_cell H2.head 3 (v := .int .i64 0) rfl; have f0 := blk_free H2.head 0; have f1 := blk_free H2.head 1; have f2 := blk_free H2.head 2; have f3 := blk_free H2.head 3; clear zo g2 H1)))
    simp [bodyPost, results, Try.results18, go_sem, y0, y1, y2, y3]
    exact store4W H2 _ _ _ _

end Go.Proofs.Ytjjgdnaejeejlaa
