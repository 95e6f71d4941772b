/- TRefC TRefD TRefE Shape -/
import Derived.Test.YtoopdhgmdjienaaGreatDoorPkW04
import Derived.WalkKit
import Derived.Lib.Hide
import Derived.Deep.DeepCutAuto
import Derived.WalkLawsBesides
import Derived.WalkSpells
import Derived.BigQuiet
import Derived.BigRegion
import Derived.Deep.RegionHeld3
import Derived.Deep.RegionLaw
import Derived.Test.YtoopdhgmdjienaaGreatDoorPkW01
import Derived.Deep.Slices
import Derived.WideKeyArgs
import Derived.ChangeArms
import Derived.WideShapes
namespace Go.Proofs.YtoopdhgmdjienaaGreatDoor
set_option linter.unusedVariables false
open Go.ChangeShapes Go.WideShapes Go.ChangeAt Go.RowKit Go.Joins
open Go.ChangeMaps (open_string shut_string)
theorem keepW1 {V W w : World} {a : Addr} {u : Value} (h : W.cell? a = some u ∧ Hid (Wider V W)) (g : Wider W w) : w.cell? a = some u ∧ Hid (Wider V w) := ⟨wkeep g h.1, htrans h.2 g⟩
set_option maxHeartbeats 8000000 in
theorem rlist_c (A : Option Addr) (n cap : Nat) (l : List ByteArray) (w : World) (h : StrsAt w A l) (hn : l.length = n) (hl : n < 1000000) (hb : (bytsT l).length < 1000000) {T : ByteArray} {r : Nat} (hT : encT l = T) (hr : okT l = r) :
 Calls Tryz.prog 96 #[.slice A n cap] w fun e w' => e = .returned (.tuple #[.string T, .int .i64 (r : Int)]) ∧ Wider w w' := by
 have HN := Lib.hid hn
 have HT := Lib.hid hT
 have HR := Lib.hid hr
 have HB := Lib.hid hb
 clear hn hT hr hb
 go_enter Tryz.func96, Tryz.ntmps96
 go_wp2
 go_loopw [4, 5] (fun v i wr => ∃ k : Nat, k ≤ n ∧ i = .int .i64 (k : Int) ∧ (∃ S : ByteArray, v = .string S ∧ mkB (bytsT (l.take k)) = S) ∧ okT (l.take k) = 0 ∧ Wider w wr) (fun _ i _ => n - (intOf i).toNat)
 case atStart => exact ⟨0, by omega, by simp, ⟨⟨#[]⟩, rfl, rfl⟩, rfl, Wider.refl w⟩
 case round =>
  obtain ⟨k, hk, rfl, ⟨S, rfl, hS⟩, hok, hg⟩ := hrel
  have HS := Lib.hid hS
  have HOK := Lib.hid hok
  have HG := Lib.hid hg
  clear hS hok
  by_cases c : k < n
  · have j0 : (0 : Int) ≤ (k : Int) := by omega
    have j1 : (k : Int) < (n : Int) := by omega
    obtain ⟨s, hx⟩ := next_some l k (by have := HN.out; omega)
    cases A with
    | none => exact absurd (h.none_ rfl) (by intro e; rw [e] at hx; simp at hx)
    | some a =>
      have SN2 := okT_snoc (l.take k) s HOK.out
      have TK := Lib.hid (take_next l k s hx)
      rw [← TK.out] at SN2
      have c0 := wkeep hg (h.cell a rfl k s hx)
      clear hx hg
      by_cases z : 65535 < s.size
      · rw [if_pos z] at SN2
        have R3 := okT_upto l (k + 1) SN2 (by decide)
        have e1 : r = 5 := by rw [← HR.out, R3]
        have e2 : T = ⟨#[]⟩ := by rw [← HT.out, encT_bad R3 (by decide)]
        subst e1 e2
        have z1 : decide ((65535 : Int) < (s.size : Int)) = true := decide_eq_true (by omega)
        have z2 : decide (65535 < s.size) = true := decide_eq_true z
        clear SN2 R3
        go_wp2
        go_ret2
        exact ⟨rfl, HG.out⟩
      · rw [if_neg z] at SN2
        have SN3 := Lib.hid SN2
        have z1 : decide ((65535 : Int) < (s.size : Int)) = false := decide_eq_false (by omega)
        have z2 : decide (65535 < s.size) = false := decide_eq_false z
        have hz : s.size < 65536 := by omega
        obtain ⟨B2, hB2⟩ : ∃ B2, mkB (bytsT (l.take (k + 1))) = B2 := ⟨_, rfl⟩
        have hlen : (bytsT (l.take (k + 1))).length < 1000000 := by
         have := HB.out
         have e : bytsT l = bytsT (l.take (k + 1)) ++ bytsT (l.drop (k + 1)) := by rw [← bytsT_append, List.take_append_drop]
         rw [e, List.length_append] at this
         omega
        have e3 : bytsT (l.take (k + 1)) = bytsT (l.take k) ++ bytT s := by rw [TK.out, bytsT_snoc]
        have hla : (bytT s).length = 2 + s.size := bytT_length _
        have hS3 : S.size = (bytsT (l.take k)).length := by rw [← HS.out, mkB_size]
        rw [e3, List.length_append, hla, ← hS3] at hlen
        have hX : S ++ mkB (wordB s.size) ++ s = B2 := by rw [← HS.out, bytT_text, ← e3, hB2]
        have y2 : (mkB (wordB s.size)).size = 2 := by rw [mkB_size]; rfl
        obtain ⟨Y2, hY2⟩ : ∃ Y, mkB (wordB s.size) = Y := ⟨_, rfl⟩
        have z3 := fun W : World => rtwo_c s.size hz W
        rw [hY2] at hX y2 z3
        have ha2 : ∀ W : World, (Op.stringOp .add S Y2).run Tryz.prog W = .ok (.string (S ++ Y2)) W := fun W => run_string_add_sum W _ _ (by omega)
        have ha3 : ∀ W : World, (Op.stringOp .add (S ++ Y2) s).run Tryz.prog W = .ok (.string B2) W := fun W => by rw [run_string_add_sum W _ _ (by rw [ByteArray.size_append]; omega), hX]
        have HB2 := Lib.hid hB2
        clear hX hY2 hlen hla hS3 e3 y2 hB2 SN2
        go_upto_region 7 with fail
        go_region_held (fun w' => w'.cell? (a.add k) = some (.string s) ∧ Hid (Wider w w'))
         (first | assumption | exact ⟨c0, HG⟩ | exact keepW1 (by assumption) (by assumption))
         (first
          | (go_at_call 73; ((with_reducible refine (z3 _).mono ?_); rintro e w' ⟨rfl, g'⟩)))
        all_goals
         (with_reducible have HE := Lib.hid (by assumption : _ ∧ Hid (Wider w _)))
         go_wp2
         go_roundw
         case rel => exact ⟨k + 1, by omega, by go_num, ⟨B2, rfl, HB2.out⟩, SN3.out, HE.out.2.out⟩
         case measure => simp [intOf]; omega
  · obtain rfl : k = n := by omega
    have e := HS.out
    have e0 := HOK.out
    rw [List.take_of_length_le (by have := HN.out; omega)] at e e0
    have e1 : r = 0 := by rw [← HR.out, e0]
    have e2 : T = S := by rw [← HT.out, encT_good e0, e]
    subst e1 e2
    clear e e0
    go_wp2
    go_ret2
    exact ⟨rfl, hg⟩
set_option maxHeartbeats 4000000 in
theorem rnum_c (n : Nat) (w : World) (h : n < 18446744073709551616) {T : ByteArray} (hT : mkB (numB n) = T) :
 Calls Tryz.prog 95 #[.int .u64 (n : Int)] w fun e w' => e = .returned (.string T) ∧ Wider w w' := by
 induction n using Nat.strongRecOn generalizing w T with
 | ind n ih =>
   by_cases z : n = 0
   · subst z
     rw [numB_0] at hT
     subst hT
     clear ih
     go_enter Tryz.func95, Tryz.ntmps95
     go_wp2
     go_ret
     exact ⟨rfl, Wider.refl w⟩
   · have e0 : ((n : Int) == 0) = false := by rw [beq_eq_false_iff_ne]; omega
     obtain ⟨Y1, hY1⟩ : ∃ Y, mkB (numB (n / 256)) = Y := ⟨_, rfl⟩
     obtain ⟨Y2, hY2⟩ : ∃ Y, mkB [UInt8.ofNat (n % 256)] = Y := ⟨_, rfl⟩
     have z3 := fun W : World => ih (n / 256) (by omega) W (by omega) hY1
     rw [show ((n / 256 : Nat) : Int) = (n : Int) / 256 by omega] at z3
     have hcv := fun (W : World) (B : Nat) (h : W.cell? ⟨B, 0, none⟩ = some (.int .u8 ((n % 256 : Nat) : Int))) => conv1 (n % 256) W B h
     rw [hY2, show ((n % 256 : Nat) : Int) = (n : Int) % 256 by omega] at hcv
     have hX : Y1 ++ Y2 = T := by
      rw [← hY1, ← hY2, mkB_append, ← hT, numB_pos n z]
     have l1 : Y1.size ≤ 8 := by rw [← hY1, mkB_size]; exact numB_len _ (by omega)
     have l2 : Y2.size = 1 := by rw [← hY2, mkB_size]; rfl
     have ha : ∀ W : World, (Op.stringOp .add Y1 Y2).run Tryz.prog W = .ok (.string T) W := fun W => by rw [run_string_add_sum W _ _ (by omega), hX]
     have m0 : (0 : Int) ≤ (n : Int) := by omega
     have m2 : (n : Int).tdiv 256 = (n : Int) / 256 := by rw [Int.tdiv_eq_ediv_of_nonneg m0]
     have m3 : (n : Int).tmod 256 = (n : Int) % 256 := by rw [Int.tmod_eq_emod_of_nonneg m0]
     have m4 : IntKind.u64.wrap ((n : Int) / 256) = (n : Int) / 256 := by rw [IntKind.wrap_u64]; omega
     have m5 : IntKind.u64.wrap ((n : Int) % 256) = (n : Int) % 256 := by rw [IntKind.wrap_u64]; omega
     have m6 : IntKind.u8.wrap ((n : Int) % 256) = (n : Int) % 256 := by simp [IntKind.wrap, IntKind.bits, IntKind.signed]
     clear ih hX l1 l2 hY1 hY2 hT
     go_enter Tryz.func95, Tryz.ntmps95
     go_upto_region 3 with fail
     have G : Hid (Wider w w) := Wider.refl w
     go_region_held (fun w' => Hid (Wider w w'))
      (first | assumption | exact G | exact halloc2 (by assumption) _ | exact htrans (by assumption) (by assumption))
      (first
       | (go_at_call 95; ((with_reducible refine (z3 _).mono ?_); rintro e w' ⟨rfl, g'⟩; (try (have q0 := wkeep g' (new1 w (.int .u8 ((n : Int) % 256)) 5))))))
     all_goals
      (with_reducible have HE := (by assumption : Hid (Wider w _)))
      go_wp2
      go_ret
      exact ⟨rfl, HE.out⟩
theorem step_append_own {P : Program} {ops : Array Oper} {o : Oper} {a : Act} {w : World} {K : Act → World → Prop} {Q : Exit → Act → World → Prop} {E : Prop}
 (hg : o.guard = none) (s x : Operand) (t : TypeId) (ho : o.op = Op.call { callee := Callee.builtin Builtin.append, args := #[s, x], argTypes := #[t, t] })
 (base : Nat) (e : TypeId) (i : TypeInfo) (z : Value) (size bytes : Nat) (ht : P.underlying t = some (.slice e)) (hi : P.info? e = some i) (hz : i.zero = some z)
 (hsize : i.size = size) (hby : i.bytes = bytes) (hzs : z.cells.size = size) (hsz : 0 < size)
 (v : Value) (n : Nat) (xs : List Value) (hs : a.eval s = v) (hown : w.ownsRow base e size v n xs)
 (ad : Addr) (m c : Nat) (news : List Value) (hx : a.eval x = .slice (some ad) m c) (hl : news.length = m * size) (hnews : ∀ j u, news[j]? = some u → w.cell? (ad.add j) = some u) (h1 : ∀ u ∈ news, u.oneCell' = true)
 (h63 : n + m ≤ maxLen) (hbytes : (n + m) * bytes ≤ 140737488355328) (hbase : base ≤ w.heap.size)
 (h : ∀ v' w', w'.ownsRow base e size v' (n + m) (xs ++ news) → w.grownBy w' v.ownBlock → (v' = .slice none 0 0 ↔ v = .slice none 0 0 ∧ m = 0) → K (a.put o.dst v') w') :
 if Region.wanted o (yielded ops a.tmps) = true then Oper.wp P o a w K Q else E := by
 have hw : Region.wanted o (yielded ops a.tmps) = true := by simp [Region.wanted, hg]
 rw [if_pos hw]
 exact wp_append_own w s x t ho base e i z size bytes ht hi hz hsize hby hzs hsz v n xs hs hown ad m c news hx hl hnews h1 h63 hbytes hbase h
end Go.Proofs.YtoopdhgmdjienaaGreatDoor
namespace Go.Proofs.YtoopdhgmdjienaaGreatDoor
set_option linter.unusedVariables false
open Go.ChangeShapes Go.WideShapes Go.RowKit Go.Deep
inductive Sh where
 | int (k : IntKind)
 | bool
 | str
 | row (s : Sh)
 | tup (fs : List Sh)
mutual
def Sh.size : Sh → Nat
 | .int _ => 1
 | .bool => 1
 | .str => 1
 | .row _ => 1
 | .tup fs => Sh.sizes fs
def Sh.sizes : List Sh → Nat
 | [] => 0
 | s :: r => s.size + Sh.sizes r
end
mutual
def Sh.fits (P : Program) : Sh → TypeId → Bool
 | .int k, t => match P.underlying t with
   | some (.int k') => decide (k' = k)
   | _ => false
 | .bool, t => match P.underlying t with
   | some .bool => true
   | _ => false
 | .str, t => match P.underlying t with
   | some .string => true
   | _ => false
 | .row s, t => match P.underlying t with
   | some (.slice e) => P.cellsOf e == s.size && s.fits P e
   | _ => false
 | .tup fs, t => match P.underlying t with
   | some (.struct F) => P.cellsOf t == Sh.sizes fs && Sh.fitsAll P fs 0 F.toList
   | _ => false
def Sh.fitsAll (P : Program) : List Sh → Nat → List Field → Bool
 | [], _, [] => true
 | s :: r, off, f :: q => f.offset == off && P.cellsOf f.type == s.size && s.fits P f.type && Sh.fitsAll P r (off + s.size) q
 | _, _, _ => false
end
structure RowAt (w : World) (A : Option Addr) (size : Nat) (l : List (List Value)) : Prop where
 none_ : A = none → l = []
 cell : ∀ a, A = some a → ∀ j x, l[j]? = some x → x.length = size ∧ ∀ i v, x[i]? = some v → w.cell? ((a.add (j * size)).add i) = some v
theorem RowAt.on {W w : World} {A : Option Addr} {size : Nat} {l : List (List Value)} (h : RowAt W A size l) (g : Wider W w) : RowAt w A size l :=
 ⟨h.none_, fun a e j x hx => ⟨(h.cell a e j x hx).1, fun i v hv => wkeep g ((h.cell a e j x hx).2 i v hv)⟩⟩
mutual
def Sh.ok (w : World) : Sh → List Value → Prop
 | .int k, cs => ∃ n, cs = [.int k n] ∧ (Lit.int k n).wf = true
 | .bool, cs => ∃ b, cs = [.bool b]
 | .str, cs => ∃ s : ByteArray, cs = [.string s] ∧ s.size ≤ maxLen
 | .row s, cs => ∃ (A : Option Addr) (len cap : Nat) (l : List (List Value)), cs = [.slice A len cap] ∧ l.length = len ∧ len ≤ cap ∧ cap ≤ maxLen ∧ RowAt w A s.size l ∧ ∀ x ∈ l, s.ok w x
 | .tup fs, cs => Sh.oks w fs cs
def Sh.oks (w : World) : List Sh → List Value → Prop
 | [], cs => cs = []
 | s :: r, cs => ∃ a b, cs = a ++ b ∧ s.ok w a ∧ Sh.oks w r b
end
variable {H : Type} {enc : TypeId × Value → H} {P : Program} {w : World} {base : Nat}
mutual
theorem Sh.open : ∀ (s : Sh) (t : TypeId) (fuel : Nat) (cs : List Value) (x : DataW H × List MemPlace), s.fits P t = true → DataW.trod enc P w base (fun _ => true) true fuel t cs = some x → s.ok w cs
 | .int k, t, fuel, cs, x, hf, h => by
   unfold Sh.fits at hf
   split at hf
   · rename_i k' hu
     obtain rfl := of_decide_eq_true hf
     obtain ⟨n, rfl, _, wn⟩ := DataW.trod_int hu h
     exact ⟨n, rfl, wn⟩
   · cases hf
 | .bool, t, fuel, cs, x, hf, h => by
   unfold Sh.fits at hf
   split at hf
   · rename_i hu
     obtain ⟨b, rfl, _⟩ := DataW.trod_bool hu h
     exact ⟨b, rfl⟩
   · cases hf
 | .str, t, fuel, cs, x, hf, h => by
   unfold Sh.fits at hf
   split at hf
   · rename_i hu
     obtain ⟨b, rfl, _, wn⟩ := DataW.trod_string hu h
     exact ⟨b, rfl, wn⟩
   · cases hf
 | .row s, t, fuel, cs, x, hf, h => by
   unfold Sh.fits at hf
   split at hf
   · rename_i e hu
     simp only [Bool.and_eq_true, beq_iff_eq] at hf
     obtain ⟨hc, hs⟩ := hf
     have ih := fun (n : Nat) (cs : List Value) (x : DataW H × List MemPlace) => Sh.open s e n cs x hs
     unfold Sh.ok
     rcases open_slice hu h with ⟨rfl, _⟩ | ⟨a, len, cap, m, n, D, Pl, rfl, hb, hl, hm, hmm, _, hi⟩
     · exact ⟨none, 0, 0, [], rfl, rfl, Nat.le_refl _, Nat.zero_le _, ⟨fun _ => rfl, fun a e => by cases e⟩, fun x hx => by cases hx⟩
     · simp only [if_true] at hmm
       subst hmm
       rw [hc] at hi
       have hk : ∀ i, i < len → ∃ cs', s.ok w cs' ∧ cs'.length = s.size ∧ ∀ j v, cs'[j]? = some v → w.cell? ((a.add (i * s.size)).add j) = some v := by
        intro i hlt
        obtain ⟨cs', h1, h2⟩ := hi i (by omega)
        obtain ⟨_, hcl, hat⟩ := World.cells?_some h1
        refine ⟨cs', ih _ _ _ h2, hcl, fun j v hv => ?_⟩
        have hj : j < cs'.length := (List.getElem?_eq_some_iff.1 hv).1
        rw [hat j (by omega)]; exact hv
       obtain ⟨F, hF⟩ := choose_lt (α := List Value) (p := fun i cs' => s.ok w cs' ∧ cs'.length = s.size ∧ ∀ j v, cs'[j]? = some v → w.cell? ((a.add (i * s.size)).add j) = some v) hk
       refine ⟨some a, len, m, (List.range len).map F, rfl, by simp, hl, hm, ⟨(fun e => by cases e), fun b e j x hx => ?_⟩, fun x hx => ?_⟩
       · obtain rfl : a = b := by injection e
         rw [List.getElem?_map] at hx
         by_cases c : j < len
         · rw [List.getElem?_range c] at hx
           simp only [Option.map_some, Option.some.injEq] at hx
           rw [← hx]; exact (hF j c).2
         · rw [List.getElem?_eq_none (by simpa using c)] at hx
           cases hx
       · obtain ⟨i, hi2, rfl⟩ := List.mem_map.1 hx
         exact (hF i (List.mem_range.1 hi2)).1
   · cases hf
 | .tup fs, t, fuel, cs, x, hf, h => by
   unfold Sh.fits at hf
   split at hf
   · rename_i F hu
     simp only [Bool.and_eq_true, beq_iff_eq] at hf
     obtain ⟨hc, hs⟩ := hf
     obtain ⟨xs, n, _, _, hlen, hxl, hg⟩ := DataW.trod_struct hu h
     have k := Sh.opens fs 0 F.toList cs hs (fun f hf => by
      obtain ⟨i, hi, rfl⟩ := List.getElem_of_mem hf
      have g := hg i F.toList[i] (by rw [← Array.getElem?_toList]; exact List.getElem?_eq_getElem hi)
      have hi2 : i < xs.length := by rw [hxl]; simpa using hi
      exact ⟨n, xs[i], by rw [g]; exact List.getElem?_eq_getElem hi2⟩)
     unfold Sh.ok
     rw [List.drop_zero, List.take_of_length_le (by omega)] at k
     exact k
   · cases hf
theorem Sh.opens : ∀ (fs : List Sh) (off : Nat) (F : List Field) (cs : List Value), Sh.fitsAll P fs off F = true →
 (∀ f ∈ F, ∃ n y, DataW.trod enc P w base (fun _ => true) true n f.type ((cs.drop f.offset).take (P.cellsOf f.type)) = some y) → Sh.oks w fs ((cs.drop off).take (Sh.sizes fs))
 | [], off, F, cs, hf, h => by unfold Sh.oks Sh.sizes; simp
 | s :: r, off, F, cs, hf, h => by
   match F, hf with
   | f :: q, hf =>
     unfold Sh.fitsAll at hf
     simp only [Bool.and_eq_true, beq_iff_eq] at hf
     obtain ⟨⟨⟨h1, h2⟩, h3⟩, h4⟩ := hf
     obtain ⟨n, y, hy⟩ := h f (.head _)
     rw [h1, h2] at hy
     have k1 := Sh.open s f.type n _ y h3 hy
     have k2 := Sh.opens r (off + s.size) q cs h4 (fun g hg => h g (.tail _ hg))
     unfold Sh.oks Sh.sizes
     exact ⟨_, _, by rw [List.take_add, List.drop_drop], k1, k2⟩
   | [], hf => unfold Sh.fitsAll at hf; cases hf
end
theorem open_arg {s : Sh} {fs : List Sh} {t : TypeId} {r : Reach} {b0 : Nat} {v : Value} {d : DataW H} {p : List MemPlace} (hs : s = .tup fs) (hf : s.fits P t = true) (hv : Value.okWide P w r b0 t v)
 (h : DataW.Trod enc P w base (fun _ => true) true t v d p) : ∃ cs, v = .agg cs ∧ Sh.oks w fs cs.toList := by
 subst hs
 obtain ⟨fuel, hfu⟩ := h
 have k := Sh.open (.tup fs) t fuel _ _ hf hfu
 unfold Sh.fits at hf
 split at hf
 · rename_i F hu
   obtain ⟨cs, rfl, _⟩ := okWide_struct hu hv
   unfold Sh.ok at k
   exact ⟨cs, rfl, k⟩
 · cases hf
theorem oks_nil {cs : List Value} (h : Sh.oks w [] cs) : cs = [] := by unfold Sh.oks at h; exact h
theorem oks_int {k : IntKind} {r : List Sh} {cs : List Value} (h : Sh.oks w (.int k :: r) cs) : ∃ n b, cs = .int k n :: b ∧ (Lit.int k n).wf = true ∧ Sh.oks w r b := by
 unfold Sh.oks at h
 obtain ⟨a, b, rfl, h1, h2⟩ := h
 unfold Sh.ok at h1
 obtain ⟨n, rfl, wn⟩ := h1
 exact ⟨n, b, rfl, wn, h2⟩
theorem oks_bool {r : List Sh} {cs : List Value} (h : Sh.oks w (.bool :: r) cs) : ∃ n b, cs = .bool n :: b ∧ Sh.oks w r b := by
 unfold Sh.oks at h
 obtain ⟨a, b, rfl, h1, h2⟩ := h
 unfold Sh.ok at h1
 obtain ⟨n, rfl⟩ := h1
 exact ⟨n, b, rfl, h2⟩
theorem oks_str {r : List Sh} {cs : List Value} (h : Sh.oks w (.str :: r) cs) : ∃ (n : ByteArray) (b : List Value), cs = .string n :: b ∧ n.size ≤ maxLen ∧ Sh.oks w r b := by
 unfold Sh.oks at h
 obtain ⟨a, b, rfl, h1, h2⟩ := h
 unfold Sh.ok at h1
 obtain ⟨n, rfl, wn⟩ := h1
 exact ⟨n, b, rfl, wn, h2⟩
theorem oks_row {s : Sh} {r : List Sh} {cs : List Value} (h : Sh.oks w (.row s :: r) cs) : ∃ (A : Option Addr) (len cap : Nat) (l : List (List Value)) (b : List Value), cs = .slice A len cap :: b ∧ l.length = len ∧ len ≤ cap ∧ cap ≤ maxLen ∧ RowAt w A s.size l ∧ (∀ x ∈ l, s.ok w x) ∧ Sh.oks w r b := by
 unfold Sh.oks at h
 obtain ⟨a, b, rfl, h1, h2⟩ := h
 unfold Sh.ok at h1
 obtain ⟨A, len, cap, l, rfl, k1, k2, k3, k4, k5⟩ := h1
 exact ⟨A, len, cap, l, b, rfl, k1, k2, k3, k4, k5, h2⟩
theorem oks_rec {fs r : List Sh} {cs : List Value} (h : Sh.oks w (.tup fs :: r) cs) : ∃ a b, cs = a ++ b ∧ Sh.oks w fs a ∧ Sh.oks w r b := by
 unfold Sh.oks at h
 obtain ⟨a, b, rfl, h1, h2⟩ := h
 unfold Sh.ok at h1
 exact ⟨a, b, rfl, h1, h2⟩
theorem map_of {α β : Type} {f : α → β} {q : α → Prop} : ∀ (l : List β), (∀ x ∈ l, ∃ y, f y = x ∧ q y) → ∃ ys : List α, l = ys.map f ∧ ∀ y ∈ ys, q y
 | [], _ => ⟨[], rfl, fun _ h => by cases h⟩
 | a :: l, h => by
   obtain ⟨y, rfl, hy⟩ := h a (.head _)
   obtain ⟨ys, rfl, hys⟩ := map_of l (fun x hx => h x (.tail _ hx))
   exact ⟨y :: ys, rfl, fun z hz => by
    rcases List.mem_cons.1 hz with rfl | hz
    · exact hy
    · exact hys z hz⟩
end Go.Proofs.YtoopdhgmdjienaaGreatDoor
