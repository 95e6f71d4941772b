/- The document's Decode and ReadList of layer 6: by walks. -/
import Derived.Test.YtemfionibnlniaaTRefC
import Derived.WalkKit
import Derived.Lib.Hide
import Derived.Deep.DeepCutAuto
import Derived.WalkLawsBesides
import Derived.WalkSpells
import Derived.BigQuiet
import Derived.Deep.RegionLaw
import Derived.BigRegion
import Derived.Deep.RegionHeld3
namespace Go.Proofs.Ytemfionibnlniaa
set_option linter.unusedVariables false
open Go.ChangeShapes Go.WideShapes Go.ChangeAt Go.RowKit Go.Joins
open Go.ChangeMaps (open_string shut_string)


/-- An append to an owned row, as one step of a region that draws. -/
theorem step_append_own {P : Program} {ops : Array Oper} {o : Oper} {a : Act} {w : World} {K : Act → World → Prop} {Q : Exit → Act → World → Prop} {E : Prop}
    (hg : o.guard = none) (s x : Operand) (t : TypeId) (ho : o.op = Op.call { callee := Callee.builtin Builtin.append, args := #[s, x], argTypes := #[t, t] })
    (base : Nat) (e : TypeId) (i : TypeInfo) (z : Value) (size bytes : Nat) (ht : P.underlying t = some (.slice e)) (hi : P.info? e = some i) (hz : i.zero = some z)
    (hsize : i.size = size) (hby : i.bytes = bytes) (hzs : z.cells.size = size) (hsz : 0 < size)
    (v : Value) (n : Nat) (xs : List Value) (hs : a.eval s = v) (hown : w.ownsRow base e size v n xs)
    (ad : Addr) (m c : Nat) (news : List Value) (hx : a.eval x = .slice (some ad) m c) (hl : news.length = m * size) (hnews : ∀ j u, news[j]? = some u → w.cell? (ad.add j) = some u) (h1 : ∀ u ∈ news, u.oneCell' = true)
    (h63 : n + m ≤ maxLen) (hbytes : (n + m) * bytes ≤ 140737488355328) (hbase : base ≤ w.heap.size)
    (h : ∀ v' w', w'.ownsRow base e size v' (n + m) (xs ++ news) → w.grownBy w' v.ownBlock → (v' = .slice none 0 0 ↔ v = .slice none 0 0 ∧ m = 0) → K (a.put o.dst v') w') :
    if Region.wanted o (yielded ops a.tmps) = true then Oper.wp P o a w K Q else E := by
  have hw : Region.wanted o (yielded ops a.tmps) = true := by simp [Region.wanted, hg]
  rw [if_pos hw]
  exact wp_append_own w s x t ho base e i z size bytes ht hi hz hsize hby hzs hsz v n xs hs hown ad m c news hx hl hnews h1 h63 hbytes hbase h
theorem lies2d (w : World) (u v : Value) (t : TypeId) (hu : u.oneCell' = true) (hv : v.oneCell' = true) :
    (∀ (j : Nat) (x : Value), ([u, v] : List Value)[j]? = some x → ((w.alloc (.cells #[u, v] t)).drew).cell? ((⟨w.heap.size, 0, none⟩ : Addr).add j) = some x) ∧ (∀ x ∈ ([u, v] : List Value), x.oneCell' = true) :=
  lies2 w u v t hu hv
def strLen : Value → Nat
  | .string s => s.size
  | _ => 0
theorem extract_list (s : ByteArray) (a b : Nat) : (s.extract a b).data.toList = (s.data.toList.take b).drop a := by
  rw [ByteArray.data_extract, Array.toList_extract]
  simp [List.extract, List.drop_take]
theorem s_head {s : ByteArray} {t a b : UInt8} {r : List UInt8} (h : s.data.toList = t :: a :: b :: r) (g : 0 < s.size) : s[0].toNat = t.toNat := by
  have : s.data.toList[0]'(by rw [h]; simp) = t := by simp [h]
  rw [← this]; rfl
set_option maxRecDepth 4000 in
set_option maxHeartbeats 8000000 in
theorem rdec_c (s : ByteArray) (w : World) (hs : s.size < 1000000) {m : List AtN} {c : Nat} (hr : decA [] 0 s.data.toList = (m, c)) :
    Calls Try.prog 20 #[.string s] w fun e w' => ∃ v, e = .returned (.tuple #[v, .int .i64 (c : Int)]) ∧ Wider w w' ∧ w'.ownsRow w.heap.size 58 2 v m.length (cellsA m) := by
  have HR := Lib.hid hr
  obtain ⟨i0, hi, hz0, hz1, hz2⟩ := info_parts infoRef
  clear hr
  go_enter Try.func20, Try.ntmps20
  go_wp2
  go_loopw [0, 4, 5] (fun q v z wr => ∃ S : ByteArray, q = .string S ∧ ∃ (acc : List AtN) (n : Nat), acc.length = n ∧ wr.ownsRow w.heap.size 58 2 v n (cellsA acc) ∧ (∃ p : Nat, z = .int .u8 (p : Int) ∧ decA acc p S.data.toList = (m, c)) ∧ n + S.size ≤ s.size ∧ Wider w wr) (fun q _ _ _ => strLen q)
  case atStart => exact ⟨s, rfl, [], 0, rfl, World.ownsRow_nil _ _ _ _, ⟨0, by simp, HR.out⟩, by omega, Wider.refl w⟩
  case round =>
    obtain ⟨S, rfl, acc, n, hn, hown, ⟨p, rfl, hd⟩, hl, hg⟩ := hrel
    have HD := Lib.hid hd
    have HN := Lib.hid hn
    have HG := Lib.hid hg
    clear hd hn
    by_cases z0 : S.size = 0
    · have t0 : S.data.toList = [] := List.eq_nil_of_length_eq_zero (by rw [← size_data]; exact z0)
      have s2 : S.toList.isEmpty = true := by rw [ByteArray.toList_eq, t0]; rfl
      have s3 : S.toList = [] := by rw [ByteArray.toList_eq, t0]
      have e := HD.out
      rw [t0, decA_nil] at e
      obtain ⟨rfl, rfl⟩ : acc = m ∧ 0 = c := by injection e with a b; exact ⟨a, b⟩
      have hown2 := hown
      rw [← HN.out] at hown2
      clear t0 z0 e hown
      go_wp2
      go_ret2
      exact ⟨_, rfl, hg, hown2⟩
    · have s1 := ne_empty S z0
      have s2 := s1.1
      have s3 := s1.2
      clear s1
      by_cases z3 : S.size < 3
      · have d1 : decide ((S.size : Int) < 3) = true := decide_eq_true (by omega)
        have d2 : decide (S.size < 3) = true := decide_eq_true z3
        have e := HD.out
        rw [decA_short _ _ _ (by intro q; apply z0; rw [size_data, q]; rfl) (by rw [← size_data]; exact z3)] at e
        obtain ⟨rfl, rfl⟩ : [] = m ∧ 4 = c := by injection e with a b; exact ⟨a, b⟩
        clear e z0
        go_wp2
        go_ret2
        exact ⟨_, rfl, hg, World.ownsRow_nil _ _ _ _⟩
      · have d1 : decide ((S.size : Int) < 3) = false := decide_eq_false (by omega)
        have d2 : decide (S.size < 3) = false := decide_eq_false z3
        obtain ⟨t, a, b, r, hS⟩ := three S.data.toList (by rw [← size_data]; omega)
        have hx : (S.extract 1 3).data.toList = [a, b] := by rw [extract_list, hS]; rfl
        have hxs : (S.extract 1 3).size = 2 := by rw [size_data, hx]; rfl
        have zn := fun W : World => rnumber_c (S.extract 1 3) (by omega) a b [] hx W
        have g0 : 0 < S.size := by omega
        have i0' : (0 : Int) < (S.size : Int) := by omega
        have i3 : (3 : Int) ≤ (S.size : Int) := by omega
        have e0 := s_head hS g0
        have hrl : r.length + 3 = S.size := by rw [size_data, hS]; simp
        have e := HD.out
        rw [hS, decA_some] at e
        obtain ⟨N, hN⟩ : ∃ N, unword a b = N := ⟨_, rfl⟩
        have hNl := unword_lt a b
        rw [hN] at zn e hNl
        have lt := t.toNat_lt
        have HS := Lib.hid hS
        clear hx hxs z0 hN hS
        by_cases q1 : t.toNat ≤ p
        · rw [if_pos (.inl q1)] at e
          obtain ⟨rfl, rfl⟩ : [] = m ∧ 3 = c := by injection e with a b; exact ⟨a, b⟩
          have f1 : decide ((S[0].toNat : Int) ≤ (p : Int)) = true := decide_eq_true (by omega)
          have f2 : decide (S[0].toNat ≤ p) = true := decide_eq_true (by omega)
          have f3 : decide ((t.toNat : Int) ≤ (p : Int)) = true := decide_eq_true (by omega)
          have f4 : decide (t.toNat ≤ p) = true := decide_eq_true q1
          clear e
          go_wp2_with (go_at_call 38; ((with_reducible refine (zn _).mono ?_); rintro e w2 ⟨rfl, g⟩; replace HG := htrans HG g))
          go_ret2
          exact ⟨_, rfl, HG.out, World.ownsRow_nil _ _ _ _⟩
        · have f1 : decide ((S[0].toNat : Int) ≤ (p : Int)) = false := decide_eq_false (by omega)
          have f2 : decide (S[0].toNat ≤ p) = false := decide_eq_false (by omega)
          have f3 : decide ((t.toNat : Int) ≤ (p : Int)) = false := decide_eq_false (by omega)
          have f4 : decide (t.toNat ≤ p) = false := decide_eq_false q1
          by_cases q2 : N = 0
          · rw [if_pos (.inr q2)] at e
            obtain ⟨rfl, rfl⟩ : [] = m ∧ 3 = c := by injection e with a b; exact ⟨a, b⟩
            have f5 : ((N : Int) == 0) = true := by rw [beq_iff_eq]; omega
            clear e q2
            go_wp2_with (go_at_call 38; ((with_reducible refine (zn _).mono ?_); rintro e w2 ⟨rfl, g⟩; replace HG := htrans HG g))
            go_ret2
            exact ⟨_, rfl, HG.out, World.ownsRow_nil _ _ _ _⟩
          · have f5 : ((N : Int) == 0) = false := by rw [beq_eq_false_iff_ne]; omega
            rw [if_neg (by rintro (h | h); exact q1 h; exact q2 h)] at e
            by_cases q3 : r.length < N
            · rw [if_pos q3] at e
              obtain ⟨rfl, rfl⟩ : [] = m ∧ 4 = c := by injection e with a b; exact ⟨a, b⟩
              have f6 : decide ((S.size : Int) < 3 + (N : Int)) = true := decide_eq_true (by omega)
              have f7 : decide (S.size < 3 + N) = true := decide_eq_true (by omega)
              clear e q2
              go_wp2_with (go_at_call 38; ((with_reducible refine (zn _).mono ?_); rintro e w2 ⟨rfl, g⟩; replace HG := htrans HG g))
              go_ret2
              exact ⟨_, rfl, HG.out, World.ownsRow_nil _ _ _ _⟩
            · rw [if_neg q3] at e
              have f6 : decide ((S.size : Int) < 3 + (N : Int)) = false := decide_eq_false (by omega)
              have f7 : decide (S.size < 3 + N) = false := decide_eq_false (by omega)
              have i4 : (3 : Int) ≤ 3 + (N : Int) := by omega
              have i5 : 3 + (N : Int) ≤ (S.size : Int) := by omega
              have w1 : IntKind.i64.wrap (3 + (N : Int)) = 3 + (N : Int) := by simp [IntKind.wrap, IntKind.bits, IntKind.signed]; omega
              have w3 : (3 + (N : Int)).toNat = 3 + N := by omega
              clear q2
              go_upto_region 12 with (go_at_call 38; ((with_reducible refine (zn _).mono ?_); rintro e w2 ⟨rfl, g⟩; replace HG := htrans HG g; replace hown := ownsRow_wider hown g))
              have hV : mkB (r.take N) = S.extract 3 (3 + N) := by
                apply ba_ext; rw [mkB_data, extract_list, HS.out]
                rw [show 3 + N = N + 1 + 1 + 1 by omega]
                simp
              have hW : (S.extract (3 + N) S.size).data.toList = r.drop N := by
                rw [extract_list, HS.out, List.take_of_length_le (by rw [← HS.out, size_data]; exact Nat.le_refl _)]
                rw [show 3 + N = N + 1 + 1 + 1 by omega]; rfl
              have hWs : (S.extract (3 + N) S.size).size = S.size - (3 + N) := by rw [size_data, hW, List.length_drop]; omega
              rw [hV, ← hW] at e
              obtain ⟨V, hV2⟩ : ∃ V, S.extract 3 (3 + N) = V := ⟨_, rfl⟩
              rw [hV2] at e
              have HE := Lib.hid e
              have HW := Lib.hid hWs
              have SIDE := Lib.hid (lies2d w2 (.int .u8 (t.toNat : Int)) (.string V) 58 rfl rfl)
              have SIDE3 : Hid (n + 1 ≤ maxLen) := by show n + 1 ≤ maxLen; unfold maxLen; omega
              have SIDE4 : Hid ((n + 1) * 24 ≤ 140737488355328) := by show (n + 1) * 24 ≤ 140737488355328; omega
              have SIDE5 : Hid (w.heap.size ≤ (w2.alloc (.cells #[.int .u8 (t.toNat : Int), .string V] 58)).drew.heap.size) := by show w.heap.size ≤ (w2.heap.push _).size; have := HG.out.2; simp; omega
              have HO : Hid ((w2.alloc (.cells #[.int .u8 (t.toNat : Int), .string V] 58)).drew.ownsRow w.heap.size 58 2 _ n (cellsA acc)) := hown.alloc _
              have HO2 := Lib.hid hown
              clear e hV hW hWs hown
              go_region_law ((refine step_append_own rfl (.tmp 30) (.tmp 38) 22 rfl w.heap.size 58 i0 (.agg #[.int .u8 0, .string ⟨#[]⟩]) 2 24 Try.underlying22 hi hz0 hz1 hz2 rfl (by decide) _ _ _ rfl HO.out ⟨w2.heap.size, 0, none⟩ 1 1 [.int .u8 (t.toNat : Int), .string V] rfl rfl SIDE.out.1 SIDE.out.2 SIDE3.out SIDE4.out SIDE5.out ?_; intro v' w3 hown' hgrow hnil))
              have G1 := wider_appendAd (o := .cells #[.int .u8 (t.toNat : Int), .string V] 58) HG.out HO2.out (by exact hgrow)
              rw [← cellsA_snoc _ ⟨t.toNat, V⟩] at hown'
              clear hgrow hnil
              go_wp2
              go_roundw
              case rel => exact ⟨S.extract (3 + N) S.size, rfl, acc ++ [⟨t.toNat, V⟩], n + 1, by simp [HN.out], hown', ⟨t.toNat, rfl, HE.out⟩, by have := HW.out; omega, G1⟩
              case measure => simp [strLen]; have := HW.out; omega

end Go.Proofs.Ytemfionibnlniaa
