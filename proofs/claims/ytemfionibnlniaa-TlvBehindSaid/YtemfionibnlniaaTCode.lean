/- What the code of package tlv does: all of its calls (the last one: ReadList, by a walk). -/
import Derived.Test.YtemfionibnlniaaTCodeF
namespace Go.Proofs.Ytemfionibnlniaa
set_option linter.unusedVariables false
open Go.ChangeShapes Go.WideShapes Go.ChangeAt Go.RowKit Go.Joins
open Go.ChangeMaps (open_string shut_string)

/-- An append to a row beside other things, as one step of a region that draws. -/
theorem step_append_thing {P : Program} {V w : World} {L : List Thing} {ops : Array Oper} {o : Oper} {a : Act} {K : Act → World → Prop} {Q : Exit → Act → World → Prop} {E : Prop} (hgd : o.guard = none) (s x : Operand) (t : TypeId)
    (ho : o.op = Op.call { callee := Callee.builtin Builtin.append, args := #[s, x], argTypes := #[t, t] })
    (e : TypeId) (i : TypeInfo) (z : Value) (size bytes : Nat) (ht : P.underlying t = some (.slice e)) (hi : P.info? e = some i) (hz : i.zero = some z)
    (hsize : i.size = size) (hby : i.bytes = bytes) (hzs : z.cells.size = size) (hsz : 0 < size)
    (v : Value) (n : Nat) (xs : List Value) (hs : a.eval s = v) (H : Own V w (rowT e size v n xs :: L))
    (A : Option Addr) (m c : Nat) (news : List Value) (hx : a.eval x = .slice A m c) (hl : news.length = m * size) (h0 : A = none → m = 0) (hnews : ∀ a, A = some a → ∀ j u, news[j]? = some u → w.cell? (a.add j) = some u) (h1 : ∀ u ∈ news, u.oneCell' = true)
    (h63 : n + m ≤ maxLen) (hbytes : (n + m) * bytes ≤ 140737488355328) {k : Nat} (hk : n + m = k) {ys : List Value} (hys : xs ++ news = ys)
    (h : ∀ B c2 w', Own V w' (rowT e size (.slice B k c2) k ys :: L) → K (a.put o.dst (.slice B k c2)) w') :
    if Region.wanted o (yielded ops a.tmps) = true then Oper.wp P o a w K Q else E := by
  subst hk hys
  have hw : Region.wanted o (yielded ops a.tmps) = true := by simp [Region.wanted, hgd]
  rw [if_pos hw]
  obtain ⟨v', w', hr, h2, h3⟩ := run_append_any (P := P) w 0 t o.type e i z size bytes ht hi hz hsize hby hzs hsz v n xs H.head A m c news hl h0 hnews h1 h63 hbytes (Nat.zero_le _)
  have hb := append_block (P := P) ht hi hz hsize hby hzs hsz H.head hl h0 hnews h1 h63 hbytes hr
  unfold Oper.wp execOp
  simp only [ho, resolve, invoke, builtin, Sem.run_bind, Sem.run_pure, Result.andThen_ok, List.map_toArray, List.map_cons, List.map_nil, hs, hx, hr]
  obtain ⟨B, c2, rfl⟩ := ownsRow_shape h2
  refine h B c2 w' (H.turn (s := rowT e size (.slice B (n + m) c2) (n + m) (xs ++ news)) (grownBy_but h3) h2 (rowT_stable _ _ _ _ _) fun j hj => ?_)
  have hj2 : (Value.slice B (n + m) c2).ownBlock = some j := by simpa using hj
  refine ⟨?_, (h2.lt j hj2).2⟩
  rcases hb j hj2 with q | q
  · exact .inl (by simp [q])
  · exact .inr q
theorem infoS : (Try.prog.info? 9).map (fun i => (i.zero, i.size, i.bytes)) = some (some (.string ⟨#[]⟩), 1, 16) := by kernel_rfl
set_option maxRecDepth 4000 in
set_option maxHeartbeats 8000000 in
theorem treadlist_a (s : ByteArray) (most : Int) (w : World) (hs : s.size < 1000000) (m0 : -9223372036854775808 ≤ most) (m1 : most ≤ 9223372036854775807) {m : List ByteArray} {c : Nat} (hr : decT [] most s.data.toList = (m, c)) :
    Calls Try.prog 29 #[.string s, .int .i64 most] w fun e w' => ∃ v, e = .returned (.tuple #[v, .int .i64 (c : Int)]) ∧ Wider w w' ∧ w'.ownsRow w.heap.size 9 1 v m.length (cellsS m) := by
  have hmf : ∀ (fn : Fn) (first cap : Array Value) (w : World), (Instr.makeFunc fn first cap).run Try.prog w = .ok (.func fn first cap) w := fun _ _ _ _ => rfl
  have H0 := ((Own.nil (Wider.refl w)).blk #[.slice none 0 0] 45).blk #[.int .i64 0] 27
  have hz : (w.alloc (.cells #[.slice none 0 0] 45)).heap.size = w.heap.size + 1 := by simp
  rw [hz] at H0
  have HR := Lib.hid hr
  have zr := fun W : World => tnewr_a s W
  obtain ⟨i0, hi, hz0, hz1, hz2⟩ := info_parts infoS
  clear hr hz
  go_enter_defers Try.func29, Try.ntmps29
  go_wp2_with (go_at_call 35; ((with_reducible refine (zr _).mono ?_); rintro e w2 ⟨p, F, rfl, g, hR, hF⟩; have H1 := H0.make g hR (rdAt_stable _ _ _) hF))
  have P0 : Own w w2 [rdT p s F, blkT (w.heap.size + 1) #[.int .i64 0] 27, blkT w.heap.size #[.slice none 0 0] 45, rowT 9 1 (.slice none 0 0) 0 (cellsS [])] := H1.nils _ _
  clear H0 H1 hR hF g zr
  go_loopw [12] (fun _ wr => ∃ (S : ByteArray) (acc : List ByteArray) (n : Nat) (v : Value), acc.length = n ∧ Own w wr [rdT p S F, blkT (w.heap.size + 1) #[.int .i64 0] 27, blkT w.heap.size #[v] 45, rowT 9 1 v n (cellsS acc)] ∧ decT acc most S.data.toList = (m, c) ∧ n + S.size ≤ s.size) (fun _ wr => leftOf wr p)
  case atStart => exact ⟨s, [], 0, _, rfl, P0, HR.out, by omega⟩
  case round =>
    obtain ⟨S, acc, n, v, hn, H, hd, hl⟩ := hrel
    have HN := Lib.hid hn
    have HD := Lib.hid hd
    have HQ := Lib.hid P0
    clear hn hd P0
    obtain ⟨A, cp, rfl⟩ := ownsRow_shape H.drop.drop.drop.head
    have cl := blk_cell H.drop.drop.head 0 (v := .slice A n cp) rfl
    have fl := blk_free H.drop.drop.head 0
    have ce := blk_cell H.drop.head 0 (v := .int .i64 0) rfl
    have fe := blk_free H.drop.head 0
    by_cases z0 : S.size = 0
    · have t0 : S.data.toList = [] := List.eq_nil_of_length_eq_zero (by rw [← size_data]; exact z0)
      have e := HD.out
      rw [t0, decT_nil] at e
      obtain ⟨rfl, rfl⟩ : acc = m ∧ 0 = c := by injection e with a b; exact ⟨a, b⟩
      have zm := tmore_a H.head (b := false) (by simp [z0])
      have H5 := Lib.hid ((H.third.store 0 (.slice A n cp)).third.store 0 (.int .i64 0))
      clear t0 z0 e
      go_wp2_with (go_at_call 36; ((with_reducible refine zm.mono ?_); rintro e w3 ⟨rfl, rfl⟩))
      have H6 := H5.out
      obtain ⟨w5, hw5⟩ : ∃ w5, (w3.setCell ⟨w.heap.size, 0, none⟩ (.slice A n cp)).setCell ⟨w.heap.size + 1, 0, none⟩ (.int .i64 0) = w5 := ⟨_, rfl⟩
      rw [hw5] at H6 ⊢
      have d1 := blk_cell H6.head 0 (v := .int .i64 0) rfl
      have d0 := blk_cell H6.drop.head 0 (v := .slice A n cp) rfl
      refine leaves_cons (f := 41) (args := #[.pointer (some ⟨w.heap.size, 0, none⟩), .pointer (some ⟨w.heap.size + 1, 0, none⟩)]) (by simp) (by simp [go_sem]) ?_
      refine (lcatch_i _).mono ?_
      rintro e u' w'' ⟨rfl, rfl, rfl⟩
      simp [Leaves, settle, results, Try.results29, go_sem, d0, d1]
      exact ⟨H6.wider, by rw [HN.out]; exact own_base H6.fourth⟩
    · have zm := tmore_a H.head (b := true) (by simp; omega)
      obtain ⟨room, hroom⟩ : ∃ room, decide ((acc.length : Int) < most) = room := ⟨_, rfl⟩
      have zi := titem_any w p F (by omega) z0 HD.out hroom
      rw [HN.out] at hroom
      rcases zi with ⟨rfl, za⟩ | ⟨X, Y, hYs, hd2, za⟩
      · clear z0
        go_upto_region 4 with (go_at_call 36; ((with_reducible refine zm.mono ?_); rintro e w3 ⟨rfl, rfl⟩))
        have H3 := za _ _ (H.quiet (Wider.refl _).drew)
        refine Code.wp_mono (Q := fun e a wq => match e with
          | .panic ch => ((a.tmps[4]? = some (.pointer (some ⟨w.heap.size, 0, none⟩)) ∧ a.tmps[5]? = some (.pointer (some ⟨w.heap.size + 1, 0, none⟩)) ∧ a.defers = [{ target := .fn (.func 41) #[.pointer (some ⟨w.heap.size, 0, none⟩), .pointer (some ⟨w.heap.size + 1, 0, none⟩)], args := #[] }])) ∧ ch = thrown c ∧ ∃ Y, Own w wq [rdT p Y F, blkT (w.heap.size + 1) #[.int .i64 0] 27, blkT w.heap.size #[.slice A n cp] 45, rowT 9 1 (.slice A n cp) n (cellsS acc)]
          | _ => False) ?_ ?_
        · intro e a wq hq
          cases e with
          | panic ch =>
            obtain ⟨⟨h4, h5, hdf⟩, rfl, Y, H4⟩ := hq
            obtain ⟨T, D⟩ := a
            subst hdf
            simp only at h4 h5
            show bodyPostD _ _ _ (Exit.panic (thrown c)) _ _
            refine leaves_cons (f := 41) (args := #[.pointer (some ⟨w.heap.size, 0, none⟩), .pointer (some ⟨w.heap.size + 1, 0, none⟩)]) (by simp) (by simp [go_sem]) ?_
            refine (lcatch_p H4.drop c []).mono ?_
            rintro e u' w5 ⟨rfl, rfl, H6⟩
            have d1 := blk_cell H6.head 0 (v := .int .i64 (c : Int)) rfl
            have d0 := blk_cell H6.drop.head 0 (v := .slice none 0 0) rfl
            simp [Leaves, settle, results, Try.results29, go_sem, d0, d1, h4, h5]
            exact ⟨H6.wider, World.ownsRow_nil _ _ _ _⟩
          | _ => exact hq.elim
        · have put : ∀ (d : Nat) (v : Value), d ≠ 4 → d ≠ 5 → ∀ (ch : List PanicEntry) (a : Act) (wq : World),
            (((a.put (some d) v).tmps[4]? = some (.pointer (some ⟨w.heap.size, 0, none⟩)) ∧ (a.put (some d) v).tmps[5]? = some (.pointer (some ⟨w.heap.size + 1, 0, none⟩)) ∧ (a.put (some d) v).defers = [{ target := .fn (.func 41) #[.pointer (some ⟨w.heap.size, 0, none⟩), .pointer (some ⟨w.heap.size + 1, 0, none⟩)], args := #[] }])) ∧ ch = thrown c ∧ (∃ Y, Own w wq [rdT p Y F, blkT (w.heap.size + 1) #[.int .i64 0] 27, blkT w.heap.size #[.slice A n cp] 45, rowT 9 1 (.slice A n cp) n (cellsS acc)]) →
            ((a.tmps[4]? = some (.pointer (some ⟨w.heap.size, 0, none⟩)) ∧ a.tmps[5]? = some (.pointer (some ⟨w.heap.size + 1, 0, none⟩)) ∧ a.defers = [{ target := .fn (.func 41) #[.pointer (some ⟨w.heap.size, 0, none⟩), .pointer (some ⟨w.heap.size + 1, 0, none⟩)], args := #[] }])) ∧ ch = thrown c ∧ (∃ Y, Own w wq [rdT p Y F, blkT (w.heap.size + 1) #[.int .i64 0] 27, blkT w.heap.size #[.slice A n cp] 45, rowT 9 1 (.slice A n cp) n (cellsS acc)]) := by
            rintro d v d4 d5 ch a wq ⟨⟨h4, h5, hdf⟩, hh⟩
            refine ⟨⟨?_, ?_, hdf⟩, hh⟩
            · rw [← h4]; simp [Act.put, d4]
            · rw [← h5]; simp [Act.put, d5]
          refine wp_region_held_drew (S := fun w' => w'.cell? ⟨w.heap.size, 0, none⟩ = some (.slice A n cp)) (by kernel_rfl) cl fun hHeld => ?_
          refine wpAnyH_take (i := 0) (v := .slice A n cp) rfl (by kernel_rfl) (by kernel_rfl) (by kernel_rfl) (put 12 _ (by decide) (by decide)) (Or.inl ⟨by rfl, ?_⟩) hHeld ?_
          · intro w' hS
            (try dsimp only at hS)
            go_simp
          simp only [Act.put]
          refine wpAnyH_take (i := 1) (v := .pointer (some p)) rfl (by kernel_rfl) (by kernel_rfl) (by kernel_rfl) (put 13 _ (by decide) (by decide)) (Or.inl ⟨by rfl, ?_⟩) hHeld ?_
          · intro w' hS
            (try dsimp only at hS)
            go_simp
          simp only [Act.put]
          refine wpAnyH_take (i := 2) (v := .slice A n cp) rfl (by kernel_rfl) (by kernel_rfl) (by kernel_rfl) (put 14 _ (by decide) (by decide)) (Or.inl ⟨by rfl, ?_⟩) hHeld ?_
          · intro w' hS
            (try dsimp only at hS)
            go_simp
          simp only [Act.put]
          refine wpAnyH_take (i := 3) (v := .int .i64 (n : Int)) rfl (by kernel_rfl) (by kernel_rfl) (by kernel_rfl) (put 15 _ (by decide) (by decide)) (Or.inl ⟨by rfl, ?_⟩) hHeld ?_
          · intro w' hS
            (try dsimp only at hS)
            go_simp
          simp only [Act.put]
          refine wpAnyH_take (i := 4) (v := .int .i64 most) rfl (by kernel_rfl) (by kernel_rfl) (by kernel_rfl) (put 16 _ (by decide) (by decide)) (Or.inl ⟨by rfl, ?_⟩) hHeld ?_
          · intro w' hS
            (try dsimp only at hS)
            go_simp
          simp only [Act.put]
          refine wpAnyH_take (i := 5) (v := .bool room) rfl (by kernel_rfl) (by kernel_rfl) (by kernel_rfl) (put 17 _ (by decide) (by decide)) (Or.inl ⟨by rfl, ?_⟩) hHeld ?_
          · intro w' hS
            (try dsimp only at hS)
            go_simp
          simp only [Act.put]
          refine wpAnyH_ready (rs := [6]) (by kernel_rfl) (by simp) ?_
          refine AllReadyH.cons rfl (fun K hK => ?_) AllReadyH.nil
          go_simp
          go_at_call 42
          refine H3.mono ?_
          rintro e w4 ⟨rfl, Y, H4⟩
          exact ⟨rfl, Y, H4⟩
      · have HD2 := Lib.hid hd2
        have HL := Lib.hid H.head.left
        have S3 : Hid (n + 1 ≤ maxLen) := by show n + 1 ≤ maxLen; unfold maxLen; omega
        have S4 : Hid ((n + 1) * 16 ≤ 140737488355328) := by show (n + 1) * 16 ≤ 140737488355328; omega
        have SN := Lib.hid (cellsS_snoc acc X).symm
        have KEY : Hid (∀ w4, Own w w4 [rdT p Y F, blkT (w.heap.size + 1) #[.int .i64 0] 27, blkT w.heap.size #[.slice A n cp] 45, rowT 9 1 (.slice A n cp) n (cellsS acc)] →
            w4.cell? ⟨w.heap.size, 0, none⟩ = some (.slice A n cp) ∧ (w4.alloc (.cells #[.string X] 9)).cell? ⟨w.heap.size, 0, none⟩ = some (.slice A n cp) ∧
            Hid (Own w (w4.alloc (.cells #[.string X] 9)) [rowT 9 1 (.slice A n cp) n (cellsS acc), rdT p Y F, blkT (w.heap.size + 1) #[.int .i64 0] 27, blkT w.heap.size #[.slice A n cp] 45]) ∧
            Hid ((∀ a, some (⟨w4.heap.size, 0, none⟩ : Addr) = some a → ∀ (j : Nat) (u : Value), ([.string X] : List Value)[j]? = some u → (w4.alloc (.cells #[.string X] 9)).cell? (a.add j) = some u) ∧ (∀ x ∈ ([.string X] : List Value), x.oneCell' = true))) := by
          intro w4 H4
          have li := lies1 w4 (.string X) 9 rfl
          exact ⟨blk_cell H4.drop.drop.head 0 rfl, kalloc (blk_cell H4.drop.drop.head 0 rfl), H4.fourth.quiet ((Wider.refl w4).alloc _), fun a e => by cases e; exact li.1, li.2⟩
        clear hd2 z0
        go_upto_region 4 with (go_at_call 36; ((with_reducible refine zm.mono ?_); rintro e w3 ⟨rfl, rfl⟩))
        have H3 := za _ _ (H.quiet (Wider.refl _).drew)
        refine wp_region_noPanic ?_
        go_region_law (first
          | (refine step_append_thing rfl (.tmp 12) (.tmp 19) 45 rfl 9 i0 (.string ⟨#[]⟩) 1 16 Try.underlying45 hi hz0 hz1 hz2 rfl (by decide) _ _ _ rfl K3.out (some ⟨w4.heap.size, 0, none⟩) 1 1 [.string X] rfl rfl (fun e => by cases e) K4.out.1 K4.out.2 S3.out S4.out rfl SN.out ?_; intro B2 c2 w5 H5; have g0 := blk_cell H5.drop.drop.drop.head 0 (v := .slice A n cp) rfl; have g1 := blk_free H5.drop.drop.drop.head 0)
          | (go_simp; go_at_call 42; ((with_reducible refine H3.mono ?_); rintro e w4 ⟨rfl, H4⟩; obtain ⟨k0, k1, K3, K4⟩ := KEY.out w4 H4; clear H4)))
        all_goals
          refine NoPanic.normal ?_
          have H6 : Own w (w5.setCell ⟨w.heap.size, 0, none⟩ (.slice B2 (n + 1) c2)) [rdT p Y F, blkT (w.heap.size + 1) #[.int .i64 0] 27, blkT w.heap.size #[.slice B2 (n + 1) c2] 45, rowT 9 1 (.slice B2 (n + 1) c2) (n + 1) (cellsS (acc ++ [X]))] := (H5.fourth.store 0 (.slice B2 (n + 1) c2)).third.fourth.swap
          go_wp2
          go_roundw
          case rel => exact ⟨Y, acc ++ [X], n + 1, .slice B2 (n + 1) c2, by simp [HN.out], H6, HD2.out, by omega⟩
          case measure =>
            rw [H6.head.left]
            have := HL.out
            omega
end Go.Proofs.Ytemfionibnlniaa
