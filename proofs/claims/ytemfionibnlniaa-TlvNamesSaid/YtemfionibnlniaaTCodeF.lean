/- What the code of package tlv does: Decode: by a walk. -/
import Derived.Test.YtemfionibnlniaaTCodeE
import Derived.Test.YtemfionibnlniaaRowV
namespace Go.Proofs.Ytemfionibnlniaa
set_option linter.unusedVariables false
open Go.ChangeShapes Go.WideShapes Go.ChangeAt Go.RowKit Go.Joins
open Go.ChangeMaps (open_string shut_string)

/-- A row of none, at the end. -/
theorem Own.last {V w : World} {L : List Thing} {r : Thing} (H : Own V w L) (hs : r.2 w) (hst : r.Stable) (hn : r.1 = []) : Own V w (L ++ [r]) where
  holds x m := by
    rcases List.mem_append.1 m with m | m
    · exact H.holds x m
    · obtain rfl : x = r := by simpa using m
      exact hs
  new x m i hi := by
    rcases List.mem_append.1 m with m | m
    · exact H.new x m i hi
    · obtain rfl : x = r := by simpa using m
      rw [hn] at hi; simp at hi
  apart := by
    rw [List.pairwise_append]
    refine ⟨H.apart, by simp, fun a _ b hb => ?_⟩
    obtain rfl : b = r := by simpa using hb
    intro i _; rw [hn]; simp
  stable x m := by
    rcases List.mem_append.1 m with m | m
    · exact H.stable x m
    · obtain rfl : x = r := by simpa using m
      exact hst
  wider := H.wider
theorem Own.nils {V w : World} {L : List Thing} (H : Own V w L) (e : TypeId) (size : Nat) : Own V w (L ++ [rowT e size (.slice none 0 0) 0 []]) :=
  H.last (World.ownsRow_nil _ _ _ _) (rowT_stable _ _ _ _ _) rfl
/-- How many bytes a reader has left. -/
def leftOf (w : World) (p : Addr) : Nat :=
  match w.cell? p with
  | some (.slice _ n _) => n
  | _ => 0
theorem RdAt.left {w : World} {p : Addr} {s : ByteArray} {F : List Nat} (h : RdAt w p s F) : leftOf w p = s.size := by
  obtain ⟨b, B, off, cap, rfl, rfl, h⟩ := h
  unfold leftOf; rw [h.cell]
/-- attr, whatever is left: what the document's Decode makes of it. -/
theorem tattr_any {V w : World} {L : List Thing} {p : Addr} {S : ByteArray} {F : List Nat} (H : Own V w (rdT p S F :: L)) (hs : S.size < 1000000) (h0 : S.size ≠ 0) {acc : List AtN} {q : Nat} {m : List AtN} {c : Nat} (hd : decA acc q S.data.toList = (m, c)) :
    (m = [] ∧ Calls Try.prog 37 #[.pointer (some p), .int .u8 (q : Int)] w fun e w' => e = .panicked (thrown c) ∧ ∃ Y, Own V w' (rdT p Y F :: L)) ∨
    (∃ (t : Nat) (X Y : ByteArray), t < 256 ∧ Y.size + 1 ≤ S.size ∧ decA (acc ++ [⟨t, X⟩]) t Y.data.toList = (m, c) ∧ Calls Try.prog 37 #[.pointer (some p), .int .u8 (q : Int)] w fun e w' => e = .returned (.agg #[.int .u8 (t : Int), .string X]) ∧ Own V w' (rdT p Y F :: L)) := by
  by_cases z3 : S.size < 3
  · rw [decA_short _ _ _ (by intro q; apply h0; rw [size_data, q]; rfl) (by rw [← size_data]; exact z3)] at hd
    obtain ⟨rfl, rfl⟩ : [] = m ∧ 4 = c := by injection hd with a b; exact ⟨a, b⟩
    exact .inl ⟨rfl, tattr_qs H (by omega) z3 q⟩
  · obtain ⟨t, a, b, r, hS⟩ := three S.data.toList (by rw [← size_data]; omega)
    have hrl : r.length + 3 = S.size := by rw [size_data, hS]; simp
    rw [hS, decA_some] at hd
    by_cases q1 : t.toNat ≤ q ∨ unword a b = 0
    · rw [if_pos q1] at hd
      obtain ⟨rfl, rfl⟩ : [] = m ∧ 3 = c := by injection hd with a b; exact ⟨a, b⟩
      exact .inl ⟨rfl, tattr_q3 H hs hS rfl q1⟩
    · rw [if_neg q1] at hd
      by_cases q3 : r.length < unword a b
      · rw [if_pos q3] at hd
        obtain ⟨rfl, rfl⟩ : [] = m ∧ 4 = c := by injection hd with a b; exact ⟨a, b⟩
        exact .inl ⟨rfl, tattr_q4 H hs hS rfl q3 (fun e => q1 (.inr e)) (fun e => q1 (.inl e))⟩
      · rw [if_neg q3] at hd
        refine .inr ⟨t.toNat, S.extract 3 (3 + unword a b), S.extract (3 + unword a b) S.size, t.toNat_lt, by rw [extract_size]; omega, ?_, tattr_o H hs hS rfl (by omega) (fun e => q1 (.inr e)) (fun e => q1 (.inl e)) rfl rfl⟩
        have hV : mkB (r.take (unword a b)) = S.extract 3 (3 + unword a b) := by
          apply ba_ext; rw [mkB_data, extract_list, hS]
          rw [show 3 + unword a b = unword a b + 1 + 1 + 1 by omega]
          simp
        have hW : (S.extract (3 + unword a b) S.size).data.toList = r.drop (unword a b) := by
          rw [extract_tail, hS, show 3 + unword a b = unword a b + 1 + 1 + 1 by omega]; simp only [List.drop_succ_cons]
        rw [← hV, hW]; exact hd
/-- item, whatever is left. -/
theorem titem_any (V : World) (p : Addr) {S : ByteArray} (F : List Nat) (hs : S.size < 1000000) (h0 : S.size ≠ 0) {acc : List ByteArray} {most : Int} {m : List ByteArray} {c : Nat} (hd : decT acc most S.data.toList = (m, c)) {room : Bool} (hroom : decide ((acc.length : Int) < most) = room) :
    (m = [] ∧ ∀ (w : World) (L : List Thing), Own V w (rdT p S F :: L) → Calls Try.prog 42 #[.pointer (some p), .bool room] w fun e w' => e = .panicked (thrown c) ∧ ∃ Y, Own V w' (rdT p Y F :: L)) ∨
    (∃ (X Y : ByteArray), Y.size + 1 ≤ S.size ∧ decT (acc ++ [X]) most Y.data.toList = (m, c) ∧ ∀ (w : World) (L : List Thing), Own V w (rdT p S F :: L) → Calls Try.prog 42 #[.pointer (some p), .bool room] w fun e w' => e = .returned (.string X) ∧ Own V w' (rdT p Y F :: L)) := by
  by_cases z3 : S.size < 2
  · rw [decT_short _ _ _ (by intro q; apply h0; rw [size_data, q]; rfl) (by rw [← size_data]; exact z3)] at hd
    obtain ⟨rfl, rfl⟩ : [] = m ∧ 4 = c := by injection hd with a b; exact ⟨a, b⟩
    exact .inl ⟨rfl, fun w L H => titem_q2 H z3 room⟩
  · obtain ⟨a, b, r, hS⟩ := pair2 S.data.toList (by rw [← size_data]; omega)
    have hrl : r.length + 2 = S.size := by rw [size_data, hS]; simp
    rw [hS, decT_some] at hd
    by_cases q1 : most ≤ (acc.length : Int)
    · rw [if_pos q1] at hd
      obtain ⟨rfl, rfl⟩ : [] = m ∧ 3 = c := by injection hd with a b; exact ⟨a, b⟩
      obtain rfl : room = false := by rw [← hroom]; exact decide_eq_false (by omega)
      exact .inl ⟨rfl, fun w L H => titem_q3 H hs hS⟩
    · rw [if_neg q1] at hd
      obtain rfl : room = true := by rw [← hroom]; exact decide_eq_true (by omega)
      by_cases q3 : r.length < unword a b
      · rw [if_pos q3] at hd
        obtain ⟨rfl, rfl⟩ : [] = m ∧ 4 = c := by injection hd with a b; exact ⟨a, b⟩
        exact .inl ⟨rfl, fun w L H => titem_q4 H hs hS rfl q3⟩
      · rw [if_neg q3] at hd
        refine .inr ⟨S.extract 2 (2 + unword a b), S.extract (2 + unword a b) S.size, by rw [extract_size]; omega, ?_, fun w L H => titem_o H hs hS rfl (by omega) rfl rfl⟩
        have hV : mkB (r.take (unword a b)) = S.extract 2 (2 + unword a b) := by
          apply ba_ext; rw [mkB_data, extract_list, hS]
          rw [show 2 + unword a b = unword a b + 1 + 1 by omega]
          simp
        have hW : (S.extract (2 + unword a b) S.size).data.toList = r.drop (unword a b) := by
          rw [extract_tail, hS, show 2 + unword a b = unword a b + 1 + 1 by omega]; simp only [List.drop_succ_cons]
        rw [← hV, hW]; exact hd
theorem own_base {V w : World} {L : List Thing} {e : TypeId} {size n : Nat} {v : Value} {xs : List Value} (H : Own V w (rowT e size v n xs :: L)) : w.ownsRow V.heap.size e size v n xs :=
  ownsRow_base H.head fun i hi => (H.new _ (.head _) i hi).1
set_option maxRecDepth 4000 in
set_option maxHeartbeats 8000000 in
theorem tdec_a (s : ByteArray) (w : World) (hs : s.size < 1000000) {m : List AtN} {c : Nat} (hr : decA [] 0 s.data.toList = (m, c)) :
    Calls Try.prog 19 #[.string s] w fun e w' => ∃ v, e = .returned (.tuple #[v, .int .i64 (c : Int)]) ∧ Wider w w' ∧ w'.ownsRow w.heap.size 38 2 v m.length (cellsA m) := by
  have hmf : ∀ (fn : Fn) (first cap : Array Value) (w : World), (Instr.makeFunc fn first cap).run Try.prog w = .ok (.func fn first cap) w := fun _ _ _ _ => rfl
  have H0 := ((Own.nil (Wider.refl w)).blk #[.slice none 0 0] 25).blk #[.int .i64 0] 27
  have hz : (w.alloc (.cells #[.slice none 0 0] 25)).heap.size = w.heap.size + 1 := by simp
  rw [hz] at H0
  have HR := Lib.hid hr
  have zr := fun W : World => tnewr_a s W
  obtain ⟨i0, hi, hz0, hz1, hz2⟩ := info_parts infoTlv
  clear hr hz
  go_enter_defers Try.func19, Try.ntmps19
  go_wp2_with (go_at_call 35; ((with_reducible refine (zr _).mono ?_); rintro e w2 ⟨p, F, rfl, g, hR, hF⟩; have H1 := H0.make g hR (rdAt_stable _ _ _) hF))
  have P0 : Own w w2 [rdT p s F, blkT (w.heap.size + 1) #[.int .i64 0] 27, blkT w.heap.size #[.slice none 0 0] 25, rowT 38 2 (.slice none 0 0) 0 (cellsA [])] := H1.nils _ _
  clear H0 H1 hR hF g zr
  go_loopw [5] (fun z wr => ∃ (S : ByteArray) (acc : List AtN) (n : Nat) (v : Value) (q : Nat), z = .int .u8 (q : Int) ∧ acc.length = n ∧ Own w wr [rdT p S F, blkT (w.heap.size + 1) #[.int .i64 0] 27, blkT w.heap.size #[v] 25, rowT 38 2 v n (cellsA acc)] ∧ decA acc q S.data.toList = (m, c) ∧ n + S.size ≤ s.size) (fun _ wr => leftOf wr p)
  case atStart => exact ⟨s, [], 0, _, 0, rfl, rfl, P0, HR.out, by omega⟩
  case round =>
    obtain ⟨S, acc, n, v, q, rfl, hn, H, hd, hl⟩ := hrel
    have HN := Lib.hid hn
    have HD := Lib.hid hd
    have HQ := Lib.hid P0
    clear hn hd P0
    obtain ⟨A, cp, rfl⟩ := ownsRow_shape H.drop.drop.drop.head
    have cl := blk_cell H.drop.drop.head 0 (v := .slice A n cp) rfl
    have fl := blk_free H.drop.drop.head 0
    have ce := blk_cell H.drop.head 0 (v := .int .i64 0) rfl
    have fe := blk_free H.drop.head 0
    by_cases z0 : S.size = 0
    · have t0 : S.data.toList = [] := List.eq_nil_of_length_eq_zero (by rw [← size_data]; exact z0)
      have e := HD.out
      rw [t0, decA_nil] at e
      obtain ⟨rfl, rfl⟩ : acc = m ∧ 0 = c := by injection e with a b; exact ⟨a, b⟩
      have zm := tmore_a H.head (b := false) (by simp [z0])
      have H5 := Lib.hid ((H.third.store 0 (.slice A n cp)).third.store 0 (.int .i64 0))
      clear t0 z0 e
      go_wp2_with (go_at_call 36; ((with_reducible refine zm.mono ?_); rintro e w3 ⟨rfl, rfl⟩))
      have H6 := H5.out
      obtain ⟨w5, hw5⟩ : ∃ w5, (w3.setCell ⟨w.heap.size, 0, none⟩ (.slice A n cp)).setCell ⟨w.heap.size + 1, 0, none⟩ (.int .i64 0) = w5 := ⟨_, rfl⟩
      rw [hw5] at H6 ⊢
      have d1 := blk_cell H6.head 0 (v := .int .i64 0) rfl
      have d0 := blk_cell H6.drop.head 0 (v := .slice A n cp) rfl
      refine leaves_cons (f := 34) (args := #[.pointer (some ⟨w.heap.size, 0, none⟩), .pointer (some ⟨w.heap.size + 1, 0, none⟩)]) (by simp) (by simp [go_sem]) ?_
      refine (dcatch_i _).mono ?_
      rintro e u' w'' ⟨rfl, rfl, rfl⟩
      simp [Leaves, settle, results, Try.results19, go_sem, d0, d1]
      exact ⟨H6.wider, by rw [HN.out]; exact own_base H6.fourth⟩
    · have zm := tmore_a H.head (b := true) (by simp; omega)
      rcases tattr_any H (by omega) z0 HD.out with ⟨rfl, za⟩ | ⟨t, X, Y, lt, hYs, hd2, za⟩
      · clear z0
        go_wp2_with (first
          | (go_at_call 36; ((with_reducible refine zm.mono ?_); rintro e w3 ⟨rfl, rfl⟩))
          | (go_at_call 37; ((with_reducible refine za.mono ?_); rintro e w4 ⟨rfl, Y, H4⟩)))
        refine leaves_cons (f := 34) (args := #[.pointer (some ⟨w.heap.size, 0, none⟩), .pointer (some ⟨w.heap.size + 1, 0, none⟩)]) (by simp) (by simp [go_sem]) ?_
        refine (dcatch_p H4.drop c []).mono ?_
        rintro e u' w5 ⟨rfl, rfl, H6⟩
        have d1 := blk_cell H6.head 0 (v := .int .i64 (c : Int)) rfl
        have d0 := blk_cell H6.drop.head 0 (v := .slice none 0 0) rfl
        simp [Leaves, settle, results, Try.results19, go_sem, d0, d1]
        exact ⟨H6.wider, World.ownsRow_nil _ _ _ _⟩
      · have HD2 := Lib.hid hd2
        have HL := Lib.hid H.head.left
        have S3 : Hid (n + 1 ≤ maxLen) := by show n + 1 ≤ maxLen; unfold maxLen; omega
        have S4 : Hid ((n + 1) * 24 ≤ 140737488355328) := by show (n + 1) * 24 ≤ 140737488355328; omega
        have SN := Lib.hid (cellsA_snoc acc ⟨t, X⟩).symm
        have KEY : Hid (∀ w4, Own w w4 [rdT p Y F, blkT (w.heap.size + 1) #[.int .i64 0] 27, blkT w.heap.size #[.slice A n cp] 25, rowT 38 2 (.slice A n cp) n (cellsA acc)] →
            (w4.alloc (.cells #[.int .u8 (t : Int), .string X] 38)).cell? ⟨w.heap.size, 0, none⟩ = some (.slice A n cp) ∧
            (w4.alloc (.cells #[.int .u8 (t : Int), .string X] 38)).cell? ⟨w4.heap.size, 0, none⟩ = some (.int .u8 (t : Int)) ∧
            (w4.alloc (.cells #[.int .u8 (t : Int), .string X] 38)).cell? ⟨w4.heap.size, 1, none⟩ = some (.string X) ∧
            Hid (Own w ((w4.alloc (.cells #[.int .u8 (t : Int), .string X] 38)).alloc (.cells #[.int .u8 (t : Int), .string X] 38)) [rowT 38 2 (.slice A n cp) n (cellsA acc), rdT p Y F, blkT (w.heap.size + 1) #[.int .i64 0] 27, blkT w.heap.size #[.slice A n cp] 25]) ∧
            Hid ((∀ a, some (⟨w4.heap.size + 1, 0, none⟩ : Addr) = some a → ∀ (j : Nat) (u : Value), ([.int .u8 (t : Int), .string X] : List Value)[j]? = some u → ((w4.alloc (.cells #[.int .u8 (t : Int), .string X] 38)).alloc (.cells #[.int .u8 (t : Int), .string X] 38)).cell? (a.add j) = some u) ∧ (∀ x ∈ ([.int .u8 (t : Int), .string X] : List Value), x.oneCell' = true))) := by
          intro w4 H4
          have n2 := new2 w4 (.int .u8 (t : Int)) (.string X) 38
          have li := lies2 (w4.alloc (.cells #[.int .u8 (t : Int), .string X] 38)) (.int .u8 (t : Int)) (.string X) 38 rfl rfl
          have ez : (w4.alloc (.cells #[.int .u8 (t : Int), .string X] 38)).heap.size = w4.heap.size + 1 := by simp
          rw [ez] at li
          exact ⟨kalloc (blk_cell H4.drop.drop.head 0 rfl), n2.1, n2.2.1, H4.fourth.quiet (((Wider.refl w4).alloc _).alloc _), fun a e => by cases e; exact li.1, li.2⟩
        clear hd2 z0
        go_wp2_with (first
          | (go_at_call 36; ((with_reducible refine zm.mono ?_); rintro e w3 ⟨rfl, rfl⟩))
          | (go_at_call 37; ((with_reducible refine za.mono ?_); rintro e w4 ⟨rfl, H4⟩; obtain ⟨k0, k1, k2, K3, K4⟩ := KEY.out w4 H4; clear KEY H4))
          | (at_builtin; refine wpList_append_thing rfl (.tmp 17) (.tmp 19) 25 rfl 38 i0 (.agg #[.int .u8 0, .string ⟨#[]⟩]) 2 24 Try.underlying25 hi hz0 hz1 hz2 rfl (by decide) _ _ _ rfl K3.out (some ⟨w4.heap.size + 1, 0, none⟩) 1 1 [.int .u8 (t : Int), .string X] rfl rfl (fun e => by cases e) K4.out.1 K4.out.2 S3.out S4.out rfl SN.out ?_; intro B2 c2 w5 H5; have g0 := blk_cell H5.drop.drop.drop.head 0 (v := .slice A n cp) rfl; have g1 := blk_free H5.drop.drop.drop.head 0))
        have H6 : Own w (w5.setCell ⟨w.heap.size, 0, none⟩ (.slice B2 (n + 1) c2)) [rdT p Y F, blkT (w.heap.size + 1) #[.int .i64 0] 27, blkT w.heap.size #[.slice B2 (n + 1) c2] 25, rowT 38 2 (.slice B2 (n + 1) c2) (n + 1) (cellsA (acc ++ [⟨t, X⟩]))] := (H5.fourth.store 0 (.slice B2 (n + 1) c2)).third.fourth.swap
        go_roundw
        case rel => exact ⟨Y, acc ++ [⟨t, X⟩], n + 1, .slice B2 (n + 1) c2, t, rfl, by simp [HN.out], H6, HD2.out, by omega⟩
        case measure =>
          rw [H6.head.left]
          have := HL.out
          omega
end Go.Proofs.Ytemfionibnlniaa
