/- OHelp TCodeA -/
import Derived.Test.YtoopdhgmdjienaaGreatDoorPkW05
import Derived.Test.YtoopdhgmdjienaaGreatDoorPkW02
import Derived.Test.YtoopdhgmdjienaaGreatDoorPkW06
import Derived.Test.YtoopdhgmdjienaaGreatDoorPkW04
import Derived.WalkKit
import Derived.Lib.Hide
import Derived.Laws.Bits64b
import Derived.Lib.AppendStr
import Derived.Deep.DeepCutAuto
import Derived.WalkLawsBesides
import Derived.WalkSpells
import Derived.BigQuiet
import Derived.BigRegion
import Derived.Deep.RegionLaw
import Derived.Deep.RegionHeld3
namespace Go.Proofs.YtoopdhgmdjienaaGreatDoor
set_option linter.unusedVariables false
open Go.ChangeShapes Go.WideShapes Go.ChangeAt Go.RowKit Go.Joins
open Go.ChangeMaps (open_string shut_string)
def addT (l : List AtN) (k : Nat) (s : ByteArray) : List AtN := if s.size = 0 then l else l ++ [⟨k, s⟩]
theorem ats_lay {w : World} {A : Option Addr} {l : List AtN} (h : AtsAt w A l) : ∀ a, A = some a → ∀ j u, (cellsA l)[j]? = some u → w.cell? (a.add j) = some u := by
 intro a e j u hu
 have hl : j < (cellsA l).length := (List.getElem?_eq_some_iff.1 hu).1
 rw [cellsA_length] at hl
 obtain ⟨x, hx⟩ := next_some l (j / 2) (by omega)
 obtain ⟨q0, q1⟩ := cellsA_at l (j / 2) x hx
 have hc := h.cell a e (j / 2) x hx
 rcases Nat.mod_two_eq_zero_or_one j with m | m
 · have ej : j = j / 2 * 2 := by omega
   rw [ej] at hu ⊢
   rw [← ej] at hu
   have : (cellsA l)[j / 2 * 2]? = some u := by rw [← ej]; exact hu
   rw [q0] at this
   injection this with this
   rw [← this]; exact hc.c0
 · have ej : j = j / 2 * 2 + 1 := by omega
   have : (cellsA l)[j / 2 * 2 + 1]? = some u := by rw [← ej]; exact hu
   rw [q1] at this
   injection this with this
   rw [ej, ← this, ← addr_add2]; exact hc.c1
set_option maxHeartbeats 4000000 in
theorem otext_c {w : World} {A : Option Addr} {n c : Nat} {l : List AtN} (h : AtsAt w A l) (hn : l.length = n) (hl : n < 100000) (k : Nat) (s : ByteArray) {m : List AtN} (hm : addT l k s = m) :
 Calls Tryz.prog 153 #[.slice A n c, .int .u8 (k : Int), .string s] w fun e w' => ∃ A' n' c', e = .returned (.slice A' n' c') ∧ Wider w w' ∧ AtsAt w' A' m ∧ m.length = n' ∧ n' ≤ n + 1 := by
 by_cases z : s.size = 0
 · have e : m = l := by rw [← hm]; unfold addT; rw [if_pos z]
   subst e
   obtain rfl := empty_of s z
   clear hm z
   go_enter Tryz.func153, Tryz.ntmps153
   go_wp2
   go_ret
   exact ⟨_, _, _, rfl, Wider.refl w, h, hn, by omega⟩
 · have e : m = l ++ [⟨k, s⟩] := by rw [← hm]; unfold addT; rw [if_neg z]
   obtain ⟨s1, s2⟩ := ne_empty s z
   obtain ⟨i0, hi, hz0, hz1, hz2⟩ := info_parts infoRef
   have H0 := (Own.nil (Wider.refl w)).empty 77 2
   have h1 := h.on ((Wider.refl w).alloc (.cells #[] 77))
   have LA := Lib.hid (ats_lay h1)
   have ON := Lib.hid (cellsA_one l)
   have NN := Lib.hid h.none_
   have S1 : Hid ((cellsA l).length = n * 2) := by show _ = _; rw [cellsA_length, hn]
   have S2 : Hid (A = none → n = 0) := by intro q; have := h.none_ q; rw [← hn, this]; rfl
   have S3 : Hid (0 + n ≤ maxLen) := by show _ ≤ maxLen; unfold maxLen; omega
   have S4 : Hid ((0 + n) * 24 ≤ 140737488355328) := by show _ ≤ _; omega
   have S5 : Hid (n + 1 ≤ maxLen) := by show _ ≤ maxLen; unfold maxLen; omega
   have S6 : Hid ((n + 1) * 24 ≤ 140737488355328) := by show _ ≤ _; omega
   have SN : Hid (cellsA l ++ [.int .u8 (k : Int), .string s] = cellsA m) := by show _ = _; rw [e, cellsA_snoc]
   have ML : Hid (m.length = n + 1) := by show _ = _; rw [e, List.length_append, hn]; rfl
   have H1 := Lib.hid H0
   have Z0 : Hid (0 + n = n) := by show _ = _; omega
   clear hm e h h1 hn z H0
   go_enter Tryz.func153, Tryz.ntmps153
   go_wp2_with (first
    | (at_builtin; refine wpList_append_thing rfl (.tmp 10) (.tmp 11) 72 rfl 77 i0 (.agg #[.int .u8 0, .string ⟨#[]⟩]) 2 24 Tryz.underlying72 hi hz0 hz1 hz2 rfl (by decide) (.slice (some ⟨w.heap.size, 0, none⟩) 0 0) 0 [] rfl H1.out A n c (cellsA l) rfl S1.out S2.out LA.out ON.out S3.out S4.out Z0.out rfl ?_; intro B2 c2 w5 H5; have H6 := Lib.hid (H5.quiet ((Wider.refl w5).alloc (.cells #[.int .u8 (k : Int), .string s] 77))); have SIDE := Lib.hid (lies2 w5 (.int .u8 (k : Int)) (.string s) 77 rfl rfl); clear H5)
    | (at_builtin; refine wpList_append_thing rfl (.tmp 12) (.tmp 16) 72 rfl 77 i0 (.agg #[.int .u8 0, .string ⟨#[]⟩]) 2 24 Tryz.underlying72 hi hz0 hz1 hz2 rfl (by decide) (.slice B2 n c2) n ([] ++ cellsA l) rfl H6.out (some ⟨w5.heap.size, 0, none⟩) 1 1 [.int .u8 (k : Int), .string s] rfl rfl (fun e => by cases e) (fun a e => by cases e; exact SIDE.out.1) SIDE.out.2 S5.out S6.out rfl SN.out ?_; intro B3 c3 w6 H7))
   go_ret
   obtain ⟨A', cap, ev, ha, hl2⟩ := atsAt_own H7.head
   injection ev with e1 e2 e3
   subst e1
   exact ⟨_, _, _, rfl, H7.wider, ha, ML.out, by omega⟩
set_option maxHeartbeats 4000000 in
theorem onum_c {w : World} {A : Option Addr} {n c : Nat} {l : List AtN} (h : AtsAt w A l) (hn : l.length = n) (hl : n < 100000) (k x : Nat) (hx : x < 18446744073709551616) {m : List AtN} (hm : addT l k (mkB (numB x)) = m) :
 Calls Tryz.prog 149 #[.slice A n c, .int .u8 (k : Int), .int .u64 (x : Int)] w fun e w' => ∃ A' n' c', e = .returned (.slice A' n' c') ∧ Wider w w' ∧ AtsAt w' A' m ∧ m.length = n' ∧ n' ≤ n + 1 := by
 obtain ⟨T, hT⟩ : ∃ T, mkB (numB x) = T := ⟨_, rfl⟩
 rw [hT] at hm
 have z1 := rnum_c x w hx hT
 have z2 := fun (W : World) (g : Wider w W) => otext_c (c := c) (h.on g) hn hl k T hm
 clear hm hT hn h
 go_enter Tryz.func149, Tryz.ntmps149
 go_wp2_with (first
  | (go_at_call 95; ((with_reducible refine z1.mono ?_); rintro e w1 ⟨rfl, g1⟩))
  | (go_at_call 153; ((with_reducible refine (z2 _ g1).mono ?_); rintro e w2 ⟨A2, n2, c2, rfl, g2, h2, e2, l2⟩)))
 go_ret
 exact ⟨_, _, _, rfl, g1.trans g2, h2, e2, l2⟩
theorem olist_c {w : World} {A Q : Option Addr} {n c q d : Nat} {l : List AtN} {it : List ByteArray} (h : AtsAt w A l) (hn : l.length = n) (hl : n < 100000) (k : Nat) (h2 : StrsAt w Q it) (hq : it.length = q) (hq2 : q < 1000000) (hk : okT it = 0) (hb : (bytsT it).length < 1000000) {m : List AtN} (hm : addT l k (encT it) = m) :
 Calls Tryz.prog 151 #[.slice A n c, .int .u8 (k : Int), .slice Q q d] w fun e w' => ∃ A' n' c', e = .returned (.slice A' n' c') ∧ Wider w w' ∧ AtsAt w' A' m ∧ m.length = n' ∧ n' ≤ n + 1 := by
 obtain ⟨T, hT⟩ : ∃ T, encT it = T := ⟨_, rfl⟩
 rw [hT] at hm
 have z1 := rlist_c Q q d it w h2 hq hq2 hb hT hk
 have z2 := fun (W : World) (g : Wider w W) => otext_c (c := c) (h.on g) hn hl k T hm
 clear hm hT hn h h2 hq hk hb
 go_enter Tryz.func151, Tryz.ntmps151
 go_wp2_with (first
  | (go_at_call 96; ((with_reducible refine z1.mono ?_); rintro e w1 ⟨rfl, g1⟩))
  | (go_at_call 153; ((with_reducible refine (z2 _ g1).mono ?_); rintro e w2 ⟨A2, n2, c2, rfl, g2, h2, e2, l2⟩)))
 go_ret
 exact ⟨_, _, _, rfl, g1.trans g2, h2, e2, l2⟩
theorem obytes_c {w : World} {A : Option Addr} {n c : Nat} {l : List AtN} (h : AtsAt w A l) (hn : l.length = n) (hl : n < 100000) (hb : (bytsA l).length < 1000000) {T : ByteArray} (hT : encA l = T) :
 Calls Tryz.prog 152 #[.slice A n c] w fun e w' => e = .returned (.string T) ∧ Wider w w' := by
 have z1 := renc_c A n c l w h hn (by omega) hb hT rfl
 clear hn hT h hb
 go_enter Tryz.func152, Tryz.ntmps152
 go_wp2_with (first
  | (go_at_call 32; ((with_reducible refine z1.mono ?_); rintro e w1 ⟨rfl, g1⟩)))
 go_ret
 exact ⟨rfl, g1⟩
def rowsI (k : IntKind) (l : List Int) : List (List Value) := l.map fun n => [.int k n]
theorem rowsI_at {k : IntKind} {l : List Int} {j : Nat} {x : Int} (h : l[j]? = some x) : (rowsI k l)[j]? = some [.int k x] := by simp [rowsI, h]
theorem allI_take (l : List Int) (k : Nat) (x : Int) (p : Int → Prop) (hx : l[k]? = some x) (h : ∀ y ∈ l.take k, p y) (hp : p x) : ∀ y ∈ l.take (k + 1), p y := by
 rw [take_next l k x hx]
 intro y hy
 rcases List.mem_append.1 hy with hy | hy
 · exact h y hy
 · obtain rfl := List.mem_singleton.1 hy
   exact hp
set_option maxHeartbeats 2000000 in
theorem oint_c {w : World} {A : Option Addr} {n c : Nat} {l : List Int} (h : RowAt w A 1 (rowsI .i64 l)) (hn : l.length = n) (hl : n < 1000000) {b : Bool} (hb : b = true ↔ ∀ x ∈ l, 0 ≤ x ∧ x ≤ 2147483647) :
 Calls Tryz.prog 54 #[.slice A n c] w fun e w' => e = .returned (.bool b) ∧ Wider w w' := by
 have HN := Lib.hid hn
 have HB := Lib.hid hb
 clear hn hb
 go_enter Tryz.func54, Tryz.ntmps54
 go_wp2
 go_loopw [3] (fun i wr => ∃ k : Nat, k ≤ n ∧ i = .int .i64 (k : Int) ∧ (∀ y ∈ l.take k, 0 ≤ y ∧ y ≤ 2147483647) ∧ wr = w) (fun i _ => n - (intOf i).toNat)
 case atStart => exact ⟨0, by omega, by simp, by simp, rfl⟩
 case round =>
  obtain ⟨k, hk, rfl, hd, rfl⟩ := hrel
  have HD := Lib.hid hd
  clear hd
  by_cases c0 : k < n
  · have j0 : (0 : Int) ≤ (k : Int) := by omega
    have j1 : (k : Int) < (n : Int) := by omega
    obtain ⟨x, hx⟩ := next_some l k (by have := HN.out; omega)
    cases A with
    | none => exact absurd (h.none_ rfl) (by intro e; have q := rowsI_at (k := .i64) hx; rw [e] at q; simp at q)
    | some a =>
      have kx := row_cell h (rowsI_at (k := .i64) hx)
      have cx := kx.1 _ rfl
      rw [Nat.mul_one] at cx
      have HX := Lib.hid hx
      clear kx hx
      by_cases p0 : x < 0
      · have d1 : decide (x < 0) = true := decide_eq_true p0
        obtain rfl : b = false := by
         cases b with
         | false => rfl
         | true => have := HB.out.1 rfl x (List.mem_of_getElem? HX.out); omega
        go_wp2
        go_ret
        exact ⟨rfl, Wider.refl _⟩
      · have d1 : decide (x < 0) = false := decide_eq_false p0
        by_cases p1 : 2147483647 < x
        · have d2 : decide (2147483647 < x) = true := decide_eq_true p1
          obtain rfl : b = false := by
           cases b with
           | false => rfl
           | true => have := HB.out.1 rfl x (List.mem_of_getElem? HX.out); omega
          go_wp2
          go_ret
          exact ⟨rfl, Wider.refl _⟩
        · have d2 : decide (2147483647 < x) = false := decide_eq_false p1
          go_wp2
          go_roundw
          case rel => exact ⟨k + 1, by omega, by go_num, allI_take l k x _ HX.out HD.out ⟨by omega, by omega⟩, trivial⟩
          case measure => simp [intOf]; omega
  · obtain rfl : k = n := by omega
    have e := HD.out
    rw [List.take_of_length_le (by have := HN.out; omega)] at e
    obtain rfl : b = true := HB.out.2 e
    clear e HD
    go_wp2
    go_ret
    exact ⟨rfl, Wider.refl _⟩
section
variable {β : Type}
theorem readG_next {cs : List (Cod β)} {zs vs : List β} {l : List AtN} {j : Nat} {x : AtN} (h : readG cs zs (l.take j) = some vs) (hx : l[j]? = some x) : readG cs zs (l.take (j + 1)) = stepG cs vs x := by
 rw [take_next l j x hx, readG_append, h]
 simp only [Option.bind_some, readG]
 cases stepG cs vs x <;> rfl
theorem readG_stuck {cs : List (Cod β)} {zs vs : List β} {l : List AtN} {j : Nat} {x : AtN} (h : readG cs zs (l.take j) = some vs) (hx : l[j]? = some x) (hs : stepG cs vs x = none) : readG cs zs l = none := by
 have e : l = l.take (j + 1) ++ l.drop (j + 1) := (List.take_append_drop _ _).symm
 rw [e, readG_append, readG_next h hx, hs]; rfl
theorem decG_some {cs : List (Cod β)} {s : List UInt8} {m : List AtN} {vs : List β} (hd : decA [] 0 s = (m, 0)) (h : readG cs (zeroG cs) m = some vs) : decG cs s = (vs, 0) := by
 unfold decG; rw [hd]; simp only [if_true]; rw [h]
theorem decG_none {cs : List (Cod β)} {s : List UInt8} {m : List AtN} (hd : decA [] 0 s = (m, 0)) (h : readG cs (zeroG cs) m = none) : decG cs s = (zeroG cs, 3) := by
 unfold decG; rw [hd]; simp only [if_true]; rw [h]
theorem decG_err {cs : List (Cod β)} {s : List UInt8} {m : List AtN} {c : Nat} (hd : decA [] 0 s = (m, c)) (h : c ≠ 0) : decG cs s = (zeroG cs, c) := by
 unfold decG; rw [hd]; simp only [if_neg h]
theorem step_at {cs : List (Cod β)} {vs : List β} {t : Nat} {q : ByteArray} {c : Cod β} {v : β} (h : codeAt cs t = some c) (hd : c.dec q = some v) : stepG cs vs ⟨t, q⟩ = some (vs.set (t - 1) v) := by
 unfold stepG
 rw [h]; simp only; rw [hd]
theorem step_bad {cs : List (Cod β)} {vs : List β} {t : Nat} {q : ByteArray} {c : Cod β} (h : codeAt cs t = some c) (hd : c.dec q = none) : stepG cs vs ⟨t, q⟩ = none := by
 unfold stepG
 rw [h]; simp only; rw [hd]
theorem step_none {cs : List (Cod β)} {vs : List β} {t : Nat} {q : ByteArray} (h : ¬ (1 ≤ t ∧ t ≤ cs.length)) : stepG cs vs ⟨t, q⟩ = none := by
 have e : codeAt cs t = none := by
  unfold codeAt
  split
  · rfl
  · exact List.getElem?_eq_none (by omega)
 unfold stepG
 rw [e]
end
theorem decA_sizes {s : ByteArray} {m : List AtN} {c : Nat} (h : decA [] 0 s.data.toList = (m, c)) : (bytsA m).length ≤ s.size := by
 by_cases c0 : c = 0
 · subst c0
   obtain ⟨l, e1, e2, _⟩ := decA_inv _ s.data.toList rfl [] 0 m h
   rw [List.nil_append] at e1
   rw [e1, ← e2, ← size_data]
   exact Nat.le_refl _
 · rcases decA_bad _ s.data.toList rfl [] 0 with k | k
   · rw [h] at k; exact absurd k c0
   · rw [h] at k
     have : m = [] := k
     rw [this]; simp [bytsA]
theorem bytsA_many : ∀ l : List AtN, l.length ≤ (bytsA l).length
 | [] => by simp
 | a :: l => by
   rw [bytsA_cons, List.length_append, bytA_length, List.length_cons]
   have := bytsA_many l
   omega
theorem decA_few {s : ByteArray} {m : List AtN} {c : Nat} (h : decA [] 0 s.data.toList = (m, c)) : m.length ≤ s.size := Nat.le_trans (bytsA_many m) (decA_sizes h)
theorem bytsA_one : ∀ (l : List AtN) (j : Nat) (x : AtN), l[j]? = some x → x.v.size ≤ (bytsA l).length
 | [], j, x, h => by simp at h
 | a :: l, j, x, h => by
   rw [bytsA_cons, List.length_append, bytA_length]
   cases j with
   | zero => simp at h; subst h; omega
   | succ j => have := bytsA_one l j x (by simpa using h); omega
theorem attr_small {s : ByteArray} {m : List AtN} {c : Nat} (h : decA [] 0 s.data.toList = (m, c)) (hs : s.size < 1000000) {j : Nat} {x : AtN} (hx : m[j]? = some x) : x.v.size < 1000000 := by
 have := bytsA_one m j x hx
 have := decA_sizes h
 omega
section
variable {β : Type}
def AtsG (w : World) (A : Option Addr) (n k : Nat) (cs : List (Cod β)) (vs : List β) (T : List AtN) : Prop :=
 ∃ l, AtsAt w A l ∧ l.length = n ∧ n < k ∧ l ++ attrsG k cs vs = T
theorem AtsG.on {W w : World} {A : Option Addr} {n k : Nat} {cs : List (Cod β)} {vs : List β} {T : List AtN} (h : AtsG W A n k cs vs T) (g : Wider W w) : AtsG w A n k cs vs T := by
 obtain ⟨l, h1, h2, h3, h4⟩ := h
 exact ⟨l, h1.on g, h2, h3, h4⟩
theorem AtsG.nil (w : World) (cs : List (Cod β)) (vs : List β) : AtsG w none 0 1 cs vs (attrsG 1 cs vs) :=
 ⟨[], ⟨fun _ => rfl, fun a e => by cases e⟩, rfl, by omega, rfl⟩
theorem AtsG.done {w : World} {A : Option Addr} {n k : Nat} {T : List AtN} (h : AtsG w A n k ([] : List (Cod β)) [] T) : AtsAt w A T ∧ T.length = n ∧ n < k := by
 obtain ⟨l, h1, h2, h3, h4⟩ := h
 have e : attrsG k ([] : List (Cod β)) [] = [] := rfl
 rw [e, List.append_nil] at h4
 subst h4
 exact ⟨h1, h2, h3⟩
theorem attrs_step (l : List AtN) (k : Nat) (co : Cod β) (cs : List (Cod β)) (v : β) (vs : List β) : l ++ attrsG k (co :: cs) (v :: vs) = addT l k (co.enc v) ++ attrsG (k + 1) cs vs := by
 simp only [attrsG, addT]
 split
 · rfl
 · rw [List.append_assoc]; rfl
theorem onum_g {w : World} {A : Option Addr} {n c k : Nat} {co : Cod β} {cs : List (Cod β)} {v : β} {vs : List β} {T : List AtN} (H : AtsG w A n k (co :: cs) (v :: vs) T) (K : Int) (hK : K = (k : Int)) (hk : k < 1000) (x : Int) (h0 : 0 ≤ x) (h1 : x < 18446744073709551616) (hc : co.enc v = mkB (numB x.toNat)) :
 Calls Tryz.prog 149 #[.slice A n c, .int .u8 K, .int .u64 x] w fun e w' => ∃ A' n' c', e = .returned (.slice A' n' c') ∧ Wider w w' ∧ AtsG w' A' n' (k + 1) cs vs T := by
 obtain ⟨l, a1, a2, a3, a4⟩ := H
 subst hK
 obtain ⟨y, rfl⟩ : ∃ y : Nat, x = (y : Int) := ⟨x.toNat, by omega⟩
 rw [attrs_step, hc, Int.toNat_natCast] at a4
 refine (onum_c (c := c) a1 a2 (by omega) k y (by omega) rfl).mono ?_
 rintro e w' ⟨A', n', c', rfl, g, h2, h3, h4⟩
 exact ⟨A', n', c', rfl, g, _, h2, h3, by omega, a4⟩
theorem otext_g {w : World} {A : Option Addr} {n c k : Nat} {co : Cod β} {cs : List (Cod β)} {v : β} {vs : List β} {T : List AtN} (H : AtsG w A n k (co :: cs) (v :: vs) T) (K : Int) (hK : K = (k : Int)) (hk : k < 1000) (s : ByteArray) (hc : co.enc v = s) :
 Calls Tryz.prog 153 #[.slice A n c, .int .u8 K, .string s] w fun e w' => ∃ A' n' c', e = .returned (.slice A' n' c') ∧ Wider w w' ∧ AtsG w' A' n' (k + 1) cs vs T := by
 obtain ⟨l, a1, a2, a3, a4⟩ := H
 subst hK
 rw [attrs_step, hc] at a4
 refine (otext_c (c := c) a1 a2 (by omega) k s rfl).mono ?_
 rintro e w' ⟨A', n', c', rfl, g, h2, h3, h4⟩
 exact ⟨A', n', c', rfl, g, _, h2, h3, by omega, a4⟩
theorem olist_g {w : World} {A Q : Option Addr} {n c q d k : Nat} {co : Cod β} {cs : List (Cod β)} {v : β} {vs : List β} {T : List AtN} {it : List ByteArray} (H : AtsG w A n k (co :: cs) (v :: vs) T) (K : Int) (hK : K = (k : Int)) (hk : k < 1000) (h2 : StrsAt w Q it) (hq : it.length = q) (hq2 : q < 1000000) (hko : okT it = 0) (hb : (bytsT it).length < 1000000) (hc : co.enc v = encT it) :
 Calls Tryz.prog 151 #[.slice A n c, .int .u8 K, .slice Q q d] w fun e w' => ∃ A' n' c', e = .returned (.slice A' n' c') ∧ Wider w w' ∧ AtsG w' A' n' (k + 1) cs vs T := by
 obtain ⟨l, a1, a2, a3, a4⟩ := H
 subst hK
 rw [attrs_step, hc] at a4
 refine (olist_c (c := c) a1 a2 (by omega) k h2 hq hq2 hko hb rfl).mono ?_
 rintro e w' ⟨A', n', c', rfl, g, h2, h3, h4⟩
 exact ⟨A', n', c', rfl, g, _, h2, h3, by omega, a4⟩
theorem obytes_g {w : World} {A : Option Addr} {n c k : Nat} {cs : List (Cod β)} {vs : List β} (H : AtsG w A n k ([] : List (Cod β)) [] (attrsG 1 cs vs)) (hk : k < 1000) (ok : okG cs vs) (hs : (cs.map fun c => 3 + c.cap).sum < 1000000) {T : ByteArray} (hT : encG cs vs = T) :
 Calls Tryz.prog 152 #[.slice A n c] w fun e w' => e = .returned (.string T) ∧ Wider w w' := by
 obtain ⟨h1, h2, h3⟩ := H.done
 exact obytes_c h1 h2 (by omega) (Nat.lt_of_le_of_lt (attrsG_size cs vs 1 ok) hs) hT
end
theorem numV_okN {top : Nat} {ht : top < 18446744073709551616} {x : Int} : (numV top ht).ok (.num x) ↔ 0 ≤ x ∧ x ≤ (top : Int) :=
 ⟨fun ⟨n, e, h⟩ => by injection e with e; subst e; exact h, fun h => ⟨x, rfl, h⟩⟩
theorem rowI_new (W : World) (l : List Int) (t : TypeId) (C : Array Value) (hC : C = (l.map (Value.int .i64)).toArray) : RowAt (W.alloc (.cells C t)) (some ⟨W.heap.size, 0, none⟩) 1 (rowsI .i64 l) where
 none_ e := by cases e
 cell a e j x hx := by
  obtain rfl : (⟨W.heap.size, 0, none⟩ : Addr) = a := by injection e
  have hj : j < l.length := by
   have := (List.getElem?_eq_some_iff.1 hx).1
   simpa [rowsI] using this
  have ex : x = [.int .i64 l[j]] := by
   have q := rowsI_at (k := .i64) (List.getElem?_eq_getElem hj)
   rw [hx] at q
   injection q
  subst ex
  refine ⟨rfl, fun i v hv => ?_⟩
  cases i with
  | succ i => simp at hv
  | zero =>
    have ev : Value.int .i64 l[j] = v := by simpa using hv
    rw [Addr.add_zero', Nat.mul_one]
    have ea : (⟨W.heap.size, 0, none⟩ : Addr).add j = ⟨W.heap.size, j, none⟩ := by
     unfold Addr.add
     by_cases h : j = 0
     · subst h; simp
     · simp [h]
    rw [ea, World.cell?_alloc_new, hC, ← ev]
    simp [hj]
theorem bnd_u8 {n : Int} (h : (Lit.int .u8 n).wf = true) : 0 ≤ n ∧ n ≤ 255 := by
 simp only [Lit.wf, Bool.and_eq_true, decide_eq_true_eq] at h
 have h1 : IntKind.u8.min = 0 := rfl
 have h2 : IntKind.u8.max = 255 := rfl
 omega
theorem bnd_i64 {n : Int} (h : (Lit.int .i64 n).wf = true) : -9223372036854775808 ≤ n ∧ n ≤ 9223372036854775807 := bounds_i64 h
theorem bnd_u64 {n : Int} (h : (Lit.int .u64 n).wf = true) : 0 ≤ n ∧ n ≤ 18446744073709551615 := by have := bounds_u64 h; omega
def rowsK (ks : List IntKind) (L : List (List Int)) : List (List Value) := L.map fun x => List.zipWith Value.int ks x
theorem rowsK_at {ks : List IntKind} {L : List (List Int)} {j : Nat} {x : List Int} (h : L[j]? = some x) : (rowsK ks L)[j]? = some (List.zipWith Value.int ks x) := by simp [rowsK, h]
theorem bnd_u32 {n : Int} (h : (Lit.int .u32 n).wf = true) : 0 ≤ n ∧ n ≤ 4294967295 := by
 simp only [Lit.wf, Bool.and_eq_true, decide_eq_true_eq] at h
 have h1 : IntKind.u32.min = 0 := rfl
 have h2 : IntKind.u32.max = 4294967295 := rfl
 omega
theorem allL_take (l : List (List Int)) (k : Nat) (x : List Int) (p : List Int → Prop) (hx : l[k]? = some x) (h : ∀ y ∈ l.take k, p y) (hp : p x) : ∀ y ∈ l.take (k + 1), p y := by
 rw [take_next l k x hx]
 intro y hy
 rcases List.mem_append.1 hy with hy | hy
 · exact h y hy
 · obtain rfl := List.mem_singleton.1 hy
   exact hp
theorem items_ok {c : Cod (List Int)} {L : List (List Int)} {strs : List ByteArray} (hst : L.map c.enc = strs) (hi : ∀ x ∈ L, c.ok x) (hc : c.cap ≤ 1000) : okT strs = 0 := by
 subst hst
 refine okT_of _ fun s hs => ?_
 obtain ⟨x, hx, rfl⟩ := List.mem_map.1 hs
 have := c.small x (hi x hx)
 omega
theorem items_small {c : Cod (List Int)} {L : List (List Int)} {strs : List ByteArray} (hst : L.map c.enc = strs) (hi : ∀ x ∈ L, c.ok x) (hc : c.cap ≤ 1000) (hn : L.length ≤ 100) : (bytsT strs).length < 1000000 := by
 subst hst
 have h := bytsT_capped (L.map c.enc) 1000 fun s hs => by
  obtain ⟨x, hx, rfl⟩ := List.mem_map.1 hs
  have := c.small x (hi x hx)
  omega
 rw [List.length_map] at h
 omega
theorem enc0 : (mkB (numB 0)).size = 0 := by rw [numB_0]; rfl
theorem AtsG.skip {β : Type} {w : World} {A : Option Addr} {n k : Nat} {co : Cod β} {cs : List (Cod β)} {v : β} {vs : List β} {T : List AtN} (H : AtsG w A n k (co :: cs) (v :: vs) T) (h : (co.enc v).size = 0) : AtsG w A n (k + 1) cs vs T := by
 obtain ⟨l, a1, a2, a3, a4⟩ := H
 rw [attrs_step] at a4
 unfold addT at a4
 rw [if_pos h] at a4
 exact ⟨l, a1, a2, by omega, a4⟩
theorem rnum_i (x : Int) (w : World) (h0 : 0 ≤ x) (h1 : x < 18446744073709551616) {T : ByteArray} (hT : mkB (numB x.toNat) = T) :
 Calls Tryz.prog 95 #[.int .u64 x] w fun e w' => e = .returned (.string T) ∧ Wider w w' := by
 obtain ⟨y, rfl⟩ : ∃ y : Nat, x = (y : Int) := ⟨x.toNat, by omega⟩
 rw [Int.toNat_natCast] at hT
 exact rnum_c y w (by omega) hT
theorem decA_okA {s : ByteArray} {m : List AtN} (h : decA [] 0 s.data.toList = (m, 0)) : okA 0 m = 0 := by
 obtain ⟨l, e1, _, e3, _⟩ := decA_inv _ s.data.toList rfl [] 0 m h
 rw [List.nil_append] at e1
 subst e1; exact e3
theorem decT_most {s : List UInt8} {most : Nat} {m : List ByteArray} (h : decT [] most s = (m, 0)) : m.length ≤ most := by
 obtain ⟨l, e1, _, _, e4⟩ := decT_inv _ s rfl [] most m h
 rw [List.nil_append] at e1
 rcases e4 with e4 | e4
 · rw [e1, e4]; exact Nat.zero_le _
 · omega
def cellsK (ks : List IntKind) (L : List (List Int)) : List Value := L.flatMap fun x => List.zipWith Value.int ks x
theorem cellsK_snoc (ks : List IntKind) (L : List (List Int)) (x : List Int) : cellsK ks (L ++ [x]) = cellsK ks L ++ List.zipWith Value.int ks x := by simp [cellsK]
theorem mapD_none_snoc {α : Type} {f : ByteArray → Option α} {m : List ByteArray} {k : Nat} {s : ByteArray} {a : List α} (h : mapD f (m.take k) = some a) (hs : m[k]? = some s) (hf : f s = none) : mapD f m = none := by
 have e : m = m.take (k + 1) ++ m.drop (k + 1) := (List.take_append_drop _ _).symm
 rw [e, take_next m k s hs, List.append_assoc, mapD_append, h]
 simp only [Option.bind_some, List.singleton_append, mapD, hf, Option.map_none]
theorem mapD_some_snoc {α : Type} {f : ByteArray → Option α} {m : List ByteArray} {k : Nat} {s : ByteArray} {a : List α} {x : α} (h : mapD f (m.take k) = some a) (hs : m[k]? = some s) (hf : f s = some x) : mapD f (m.take (k + 1)) = some (a ++ [x]) := by
 rw [take_next m k s hs, mapD_append, h]
 simp only [Option.bind_some, mapD, hf, Option.map_some]
theorem lstV_yes {most : Nat} {it : Cod (List Int)} {hm : most * (2 + it.cap) ≤ 65535} {hi : it.cap ≤ 65535} {q : ByteArray} {m : List ByteArray} {l : List (List Int)} (h : decT [] most q.data.toList = (m, 0)) (h2 : mapD it.dec m = some l) : (lstV most it hm hi).dec q = some (.lst l) := by
 show (if (decT [] most q.data.toList).2 = 0 then _ else _) = _
 rw [h]; simp only [if_true]; rw [h2]; rfl
theorem lstV_no {most : Nat} {it : Cod (List Int)} {hm : most * (2 + it.cap) ≤ 65535} {hi : it.cap ≤ 65535} {q : ByteArray} {m : List ByteArray} (h : decT [] most q.data.toList = (m, 0)) (h2 : mapD it.dec m = none) : (lstV most it hm hi).dec q = none := by
 show (if (decT [] most q.data.toList).2 = 0 then _ else _) = _
 rw [h]; simp only [if_true]; rw [h2]; rfl
theorem lstV_bad {most : Nat} {it : Cod (List Int)} {hm : most * (2 + it.cap) ≤ 65535} {hi : it.cap ≤ 65535} {q : ByteArray} {m : List ByteArray} {r : Nat} (h : decT [] most q.data.toList = (m, r)) (h2 : r ≠ 0) : (lstV most it hm hi).dec q = none := by
 show (if (decT [] most q.data.toList).2 = 0 then _ else _) = _
 rw [h]; simp only [if_neg h2]
theorem decG_items (cs : List (Cod Int)) (s : List UInt8) : (decG cs s).1.length = cs.length := by
 unfold decG
 split
 · cases h : readG cs (zeroG cs) (decA [] 0 s).1 with
   | none => simp [zeroG]
   | some vs =>
     simp only
     have key : ∀ (l : List AtN) (us ws : List Int), readG cs us l = some ws → ws.length = us.length := by
      intro l
      induction l with
      | nil => intro us ws h; simp only [readG, Option.some.injEq] at h; rw [h]
      | cons a l ih =>
        intro us ws h
        simp only [readG] at h
        cases h1 : stepG cs us a with
        | none => rw [h1] at h; cases h
        | some vs2 =>
          rw [h1] at h
          rw [ih _ _ h]
          unfold stepG at h1
          cases h2 : codeAt cs a.t with
          | none => rw [h2] at h1; cases h1
          | some c =>
            rw [h2] at h1
            simp only at h1
            cases h3 : c.dec a.v with
            | none => rw [h3] at h1; cases h1
            | some v => rw [h3] at h1; simp only [Option.some.injEq] at h1; rw [← h1, List.length_set]
     rw [key _ _ _ h]; simp [zeroG]
 · simp [zeroG]
theorem bytsT_one : ∀ (l : List ByteArray) (j : Nat) (x : ByteArray), l[j]? = some x → x.size ≤ (bytsT l).length
 | [], j, x, h => by simp at h
 | a :: l, j, x, h => by
   rw [bytsT_cons, List.length_append, bytT_length]
   cases j with
   | zero => simp at h; subst h; omega
   | succ j => have := bytsT_one l j x (by simpa using h); omega
theorem item_small {q : ByteArray} {most : Nat} {m : List ByteArray} (h : decT [] most q.data.toList = (m, 0)) (hq : q.size < 1000000) {k : Nat} {x : ByteArray} (hx : m[k]? = some x) : x.size < 1000000 := by
 obtain ⟨l, e1, e2, _⟩ := decT_inv _ q.data.toList rfl [] most m h
 rw [List.nil_append] at e1
 have := bytsT_one m k x hx
 rw [e1, ← e2, ← size_data] at this
 omega
theorem byte_or (n b : Nat) (h : n < 72057594037927936) (hb : b < 256) : n * 256 ||| b = n * 256 + b := by
 have := Nat.two_pow_add_eq_or_of_lt (i := 8) (b := b) (by simpa using hb) n
 rw [show n * 256 = 2 ^ 8 * n by omega, ← this]
theorem readB_take_lt (l : List UInt8) (k : Nat) (hk : k < 8) : readB (l.take k) < 72057594037927936 := by
 have h := readB_lt (l.take k)
 have e : (l.take k).length ≤ 7 := by rw [List.length_take]; omega
 have := Nat.pow_le_pow_right (n := 256) (by omega) e
 have e7 : (256 : Nat) ^ 7 = 72057594037927936 := by decide
 omega
set_option maxHeartbeats 2000000 in
theorem tnumber_c (s : ByteArray) (hs : s.size ≤ 8) {n : Nat} (hn : readB s.data.toList = n) (w : World) :
 Calls Tryz.prog 158 #[.string s] w fun e w' => e = .returned (.int .u64 (n : Int)) ∧ Wider w w' := by
 have HN := Lib.hid hn
 clear hn
 go_enter Tryz.func158, Tryz.ntmps158
 go_wp2
 go_loopw [3, 7] (fun v i wr => ∃ k : Nat, k ≤ s.size ∧ i = .int .i64 (k : Int) ∧ (∃ m : Nat, v = .int .u64 (m : Int) ∧ readB (s.data.toList.take k) = m) ∧ Wider w wr) (fun _ i _ => s.size - (intOf i).toNat)
 case atStart => exact ⟨0, by omega, by simp, ⟨0, rfl, rfl⟩, Wider.refl w⟩
 case round =>
  obtain ⟨k, hk, rfl, ⟨m, rfl, hm⟩, hg⟩ := hrel
  have HM := Lib.hid hm
  by_cases c : k < s.size
  · have lm := readB_take_lt s.data.toList k (by omega)
    rw [hm] at lm
    have hb := s[k].toNat_lt
    have i0 : (0 : Int) ≤ (k : Int) := by omega
    have i1 : (k : Int) < (s.size : Int) := by omega
    have o : bits BinOp.or IntKind.u64 ((m : Int) * 256) (s[k].toNat : Int) = ((m * 256 + s[k].toNat : Nat) : Int) := by
     have e := bits_or_u64_nat (m * 256) s[k].toNat (by omega) (by omega)
     rw [byte_or m _ lm (by omega)] at e
     rw [← e]; simp
    have TK : Hid (readB (s.data.toList.take (k + 1)) = m * 256 + s[k].toNat) := by
     show readB (s.data.toList.take (k + 1)) = m * 256 + s[k].toNat
     rw [List.take_succ_eq_append_getElem (by rw [← size_data]; exact c), readB_snoc, hm]; rfl
    have O := Lib.hid o
    clear hm o
    go_wp2
    go_roundw
    case rel => exact ⟨k + 1, by omega, by go_num, ⟨m * 256 + s[k].toNat, by rw [O.out], TK.out⟩, hg⟩
    case measure => simp [intOf]; omega
  · obtain rfl : k = s.size := by omega
    rw [List.take_of_length_le (by rw [size_data]; exact Nat.le_refl _)] at hm
    have e := HN.out
    obtain rfl : m = n := hm.symm.trans e
    clear hm e
    go_wp2
    go_ret
    exact ⟨rfl, hg⟩
theorem cellsB_word (n : Nat) (h : n < 65536) : cellsB (wordB n) = [.int .u8 ((n : Int) / 256), .int .u8 ((n : Int) % 256)] := by
 simp only [cellsB, wordB, List.map_cons, List.map_nil]
 rw [ofNat_toNat8 _ (by omega), ofNat_toNat8 _ (by omega)]; simp
set_option maxHeartbeats 2000000 in
theorem tapp_c {W w : World} (g : Wider W w) {v : Value} {n : Nat} {l : List UInt8} (h : w.ownsRow W.heap.size 5 1 v n (cellsB l)) (s : ByteArray) (hs : s.size < 65536) (hn : n < 2000000) {m : List UInt8} (hm : l ++ bytT s = m) :
 Calls Tryz.prog 75 #[v, .string s] w fun e w' => ∃ v', e = .returned v' ∧ Wider W w' ∧ w'.ownsRow W.heap.size 5 1 v' (n + 2 + s.size) (cellsB m) := by
 obtain ⟨i0, hi, hz0, hz1, hz2⟩ := infoN_parts
 have m0 : (0 : Int) ≤ (s.size : Int) := by omega
 have SIDE := Lib.hid (lies2 w (.int .u8 ((s.size : Int) / 256)) (.int .u8 ((s.size : Int) % 256)) 5 rfl rfl)
 have S3 : Hid (n + 2 ≤ maxLen) := by show n + 2 ≤ maxLen; unfold maxLen; omega
 have S4 : Hid ((n + 2) * 1 ≤ 140737488355328) := by show (n + 2) * 1 ≤ 140737488355328; omega
 have S5 : Hid (W.heap.size ≤ (w.alloc (.cells #[.int .u8 ((s.size : Int) / 256), .int .u8 ((s.size : Int) % 256)] 5)).heap.size) := by show W.heap.size ≤ (w.heap.push _).size; have := g.2; simp; omega
 have S6 : Hid (n + 2 + s.size ≤ maxLen) := by show n + 2 + s.size ≤ maxLen; unfold maxLen; omega
 have S7 : Hid (n + 2 + s.size ≤ 140737488355328) := by show n + 2 + s.size ≤ 140737488355328; omega
 have HO := Lib.hid (h.alloc (.cells #[.int .u8 ((s.size : Int) / 256), .int .u8 ((s.size : Int) % 256)] 5))
 have HG := Lib.hid g
 have HM : Hid (cellsB l ++ [.int .u8 ((s.size : Int) / 256), .int .u8 ((s.size : Int) % 256)] ++ Lib.strCells s = cellsB m) := by
  show _ = _
  rw [← hm, cellsB_append, ← cellsB_word _ hs, cellsB_str, List.append_assoc, ← cellsB_append]; rfl
 have HH := Lib.hid h
 clear g hm h
 go_enter Tryz.func75, Tryz.ntmps75
 go_wp2_with (first
  | (at_builtin; refine wpList_append_own _ rfl (.tmp 5) (.tmp 13) 24 rfl W.heap.size 5 i0 (.int .u8 0) 1 1 Tryz.underlying24 hi hz0 hz1 hz2 rfl (by decide) _ _ _ rfl HO.out ⟨w.heap.size, 0, none⟩ 2 2 [.int .u8 ((s.size : Int) / 256), .int .u8 ((s.size : Int) % 256)] rfl rfl SIDE.out.1 SIDE.out.2 S3.out S4.out S5.out ?_; intro v1 w1 hown1 hgrow1 _; have G1 := Lib.hid (wider_appendA HG.out HH.out hgrow1); have HO1 := Lib.hid hown1; clear hown1 hgrow1)
  | (at_builtin; refine Lib.wpList_append_own_string _ rfl (.tmp 15) (.tmp 16) 24 9 rfl W.heap.size 5 i0 Tryz.underlying24 Tryz.underlying9 hi hz0 hz1 hz2 _ _ _ rfl HO1.out s rfl S6.out S7.out G1.out.2 ?_; intro v2 w2 hown2 hgrow2 _; have G2 := Lib.hid (wider_append G1.out HO1.out hgrow2); have HO2 := Lib.hid hown2; clear hown2 hgrow2))
 go_ret
 exact ⟨_, rfl, G2.out, by rw [← HM.out]; exact HO2.out⟩
end Go.Proofs.YtoopdhgmdjienaaGreatDoor
