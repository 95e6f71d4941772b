/- Package tern: which group, and which item, comes first; where one stands: by walks of its code. -/
import Derived.Test.YtjjgdnaejeejlaaUCodeA
namespace Go.Proofs.Ytjjgdnaejeejlaa
set_option linter.unusedVariables false
open Go.ChangeShapes Go.WideShapes Go.ChangeAt Go.RowKit Go.Joins

/-! ### A group that is read -/
structure GrpAt (w : World) (g : GrpN) : Prop where
  blk : w.heap[g.b]? = some (.cells (grpC g) 70 (0, 0))
  pr : w.ownsRow 0 3 1 g.prv g.pr.length (intsU g.pr)
  map : MapAt w g.M (entR g.rows)
  rows : ∀ r ∈ g.rows, w.ownsRow 0 63 5 r.val r.ps.length (cellsP r.ps)
theorem GrpAt.on {W w : World} {g : GrpN} (h : GrpAt W g) (k : Wider W w) : GrpAt w g :=
  ⟨(wheap k (Array.getElem?_eq_some_iff.1 h.blk).1).trans h.blk, ownsRow_wider h.pr k, h.map.on k, fun r hr => ownsRow_wider (h.rows r hr) k⟩
theorem grp_of {w : World} {g : GrpN} (h : ∀ t ∈ g.things, t.2 w) : GrpAt w g :=
  ⟨h _ (.head _), h _ (.tail _ (.head _)), h _ (.tail _ (.tail _ (.head _))), fun r hr => h (rowThing r) (.tail _ (.tail _ (.tail _ (List.mem_map.2 ⟨r, hr, rfl⟩))))⟩
theorem row_slice {w : World} {E : TypeId} {k n : Nat} {v : Value} {xs : List Value} (h : w.ownsRow 0 E k v n xs) (hn : 0 < n) :
    ∃ B c, v = .slice (some ⟨B, 0, none⟩) n c ∧ ∀ j u, xs[j]? = some u → w.cell? ⟨B, j, none⟩ = some u := by
  have hh := h
  rcases h.2 with ⟨_, q2⟩ | ⟨g, cap, cur, rfl, hb, hg, r⟩
  · omega
  · refine ⟨g, cap, rfl, fun j u hu => ?_⟩
    have q := hh.cells (g := g) rfl j u hu
    rwa [Addr.add_lit, Nat.zero_add] at q
theorem top_at {g : GrpN} {n : Nat} (h : g.pr.length = n + 1) : (intsU g.pr)[n]? = some (.int .i64 g.top) := by
  unfold intsU GrpN.top
  rw [List.getElem?_map, List.getLast?_eq_getElem?, h, Nat.add_sub_cancel]
  have : g.pr[n]? = some (g.pr[n]'(by omega)) := List.getElem?_eq_getElem _
  rw [this]; rfl
set_option maxRecDepth 20000 in
theorem ugreatest_c {w : World} {g : GrpN} (h : GrpAt w g) (hn : 0 < g.pr.length) (hl : g.pr.length < 1000000) : Calls Try.prog 50 #[ptrU g.b] w fun e w' => e = .returned (.int .i64 g.top) ∧ Wider w w' := by
  obtain ⟨n, hn1⟩ : ∃ n, g.pr.length = n + 1 := ⟨g.pr.length - 1, by omega⟩
  obtain ⟨B, c, hv, hc⟩ := row_slice h.pr hn
  have c2 := blk_cell h.blk 2 (v := g.prv) rfl
  have c3 := hc n _ (top_at hn1)
  rw [hv, hn1] at c2
  rw [hn1] at hl
  obtain ⟨t, ht⟩ : ∃ t, g.top = t := ⟨_, rfl⟩
  obtain ⟨b, hb⟩ : ∃ b, g.b = b := ⟨_, rfl⟩
  rw [ht] at c3
  rw [hb] at c2
  rw [hb, ht]
  have i0 : (0 : Int) ≤ (n : Int) := by omega
  have i1 : (n : Int) < ((n + 1 : Nat) : Int) := by omega
  have i2 : (n : Int) < (n : Int) + 1 := by omega
  have i3 : IntKind.i64.wrap (((n + 1 : Nat) : Int) - 1) = (n : Int) := by simp [IntKind.wrap, IntKind.bits, IntKind.signed]; omega
  clear h hn hc hv hn1 ht hb
  show Calls Try.prog 50 #[.pointer (some ⟨b, 0, none⟩)] w _
  go_enter Try.func50, Try.ntmps50
  go_upto_region 1 with (fail)
  go_quiet (fail)
  go_wp2
  go_ret
  exact ⟨rfl, (Wider.refl w).drewN _⟩
theorem ucompare_c (x y : Int) (w : World) : Calls Try.prog 37 #[.int .i64 x, .int .i64 y] w fun e w' => e = .returned (.int .i64 (Lib.compareInt x y)) ∧ Wider w w' :=
  (Try.cmp_Compare_int x y w).mono fun e w' ⟨h1, h2⟩ => ⟨h1, by rw [h2]; exact Wider.refl w⟩
def aheadN (g h : GrpN) : Int := if Lib.compareInt h.top g.top ≠ 0 then Lib.compareInt h.top g.top else Lib.compareBytes g.mask.data.toList h.mask.data.toList
theorem uahead_c {w : World} {g h : GrpN} (hg : GrpAt w g) (hh : GrpAt w h) (g0 : 0 < g.pr.length) (g1 : g.pr.length < 1000000) (h0 : 0 < h.pr.length) (h1 : h.pr.length < 1000000) :
    Calls Try.prog 41 #[ptrU g.b, ptrU h.b] w fun e w' => e = .returned (.int .i64 (aheadN g h)) ∧ Wider w w' := by
  have zg := fun w1 (k : Wider w w1) => ugreatest_c (hg.on k) g0 g1
  have zh := fun w1 (k : Wider w w1) => ugreatest_c (hh.on k) h0 h1
  have cg := blk_cell hg.blk 0 (v := .string g.mask) rfl
  have ch := blk_cell hh.blk 0 (v := .string h.mask) rfl
  obtain ⟨a, ha⟩ : ∃ a, g.b = a := ⟨_, rfl⟩
  obtain ⟨b, hb⟩ : ∃ b, h.b = b := ⟨_, rfl⟩
  obtain ⟨s, hs⟩ : ∃ s, g.mask = s := ⟨_, rfl⟩
  obtain ⟨t, ht⟩ : ∃ t, h.mask = t := ⟨_, rfl⟩
  obtain ⟨p, hp⟩ : ∃ p, g.top = p := ⟨_, rfl⟩
  obtain ⟨q, hq⟩ : ∃ q, h.top = q := ⟨_, rfl⟩
  have e : aheadN g h = if Lib.compareInt q p ≠ 0 then Lib.compareInt q p else Lib.compareBytes s.data.toList t.data.toList := by unfold aheadN; rw [hs, ht, hp, hq]
  rw [e]
  rw [ha] at zg cg
  rw [hb] at zh ch
  rw [hs] at cg
  rw [ht] at ch
  rw [hp] at zg
  rw [hq] at zh
  rw [ha, hb]
  clear e hg hh g0 g1 h0 h1 ha hb hs ht hp hq
  obtain ⟨c, hc⟩ : ∃ c, Lib.compareInt q p = c := ⟨_, rfl⟩
  obtain ⟨d, hd⟩ : ∃ d, Lib.compareBytes s.data.toList t.data.toList = d := ⟨_, rfl⟩
  have zc := ucompare_c q p
  have zs := Try.strings_Compare s t
  rw [hc] at zc ⊢
  rw [hd] at zs ⊢
  show Calls Try.prog 41 #[.pointer (some ⟨a, 0, none⟩), .pointer (some ⟨b, 0, none⟩)] w _
  unfold ptrU at zg zh
  have H : Wider w w := Wider.refl w
  by_cases k : c = 0
  · subst k
    simp only [ne_eq, not_true, if_false]
    clear hc hd
    go_enter Try.func41, Try.ntmps41
    go_upto_region 4 with (first
      | (go_at_call 50; ((with_reducible refine (zg _ H).mono ?_); rintro e w1 ⟨rfl, g⟩; replace H := H.trans g; clear g))
      | (go_at_call 50; ((with_reducible refine (zh _ H).mono ?_); rintro e w1 ⟨rfl, g⟩; replace H := H.trans g; clear g))
      | (go_at_call 37; ((with_reducible refine (zc _).mono ?_); rintro e w1 ⟨rfl, g⟩; replace H := H.trans g; replace cg := wkeep H cg; replace ch := wkeep H ch; clear g)))
    go_quiet ((go_at_call 59; exact Calls.quiet_of_same (zs _)))
    go_wp2
    go_ret
    exact ⟨rfl, H.drewN _⟩
  · rw [if_pos k]
    have k1 : (c == 0) = false := by rw [beq_eq_false_iff_ne]; exact k
    have k2 : (c != 0) = true := by simp [k]
    clear hc hd
    go_enter Try.func41, Try.ntmps41
    go_wp2_with (first
      | (go_at_call 50; ((with_reducible refine (zg _ H).mono ?_); rintro e w1 ⟨rfl, g⟩; replace H := H.trans g; clear g))
      | (go_at_call 50; ((with_reducible refine (zh _ H).mono ?_); rintro e w1 ⟨rfl, g⟩; replace H := H.trans g; clear g))
      | (go_at_call 37; ((with_reducible refine (zc _).mono ?_); rintro e w1 ⟨rfl, g⟩; replace H := H.trans g; clear g)))
    go_ret
    exact ⟨rfl, H⟩

end Go.Proofs.Ytjjgdnaejeejlaa
