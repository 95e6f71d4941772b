/- The law TernAgain: its region of seven calls, which draws its order: what holds whichever of its operations have been. -/
import Derived.Test.YtjjgdnaejeejlaaUPlain
import Derived.Test.YtjjgdnaejeejlaaUAppend
import Derived.Test.YtjjgdnaejeejlaaUDraw
namespace Go.Proofs.Ytjjgdnaejeejlaa
set_option linter.unusedVariables false
open Go.ChangeShapes Go.WideShapes Go.ChangeAt Go.RowKit Go.Joins

/-- An append to a row beside other things, as an operation. -/
theorem wp_append_thing {P : Program} {V w : World} {L : List Thing} {o : Oper} {a : Act} {K : Act → World → Prop} {Q : Exit → Act → World → Prop} (s x : Operand) (t : TypeId)
    (ho : o.op = Op.call { callee := Callee.builtin Builtin.append, args := #[s, x], argTypes := #[t, t] })
    (e : TypeId) (i : TypeInfo) (z : Value) (size bytes : Nat) (ht : P.underlying t = some (.slice e)) (hi : P.info? e = some i) (hz : i.zero = some z)
    (hsize : i.size = size) (hby : i.bytes = bytes) (hzs : z.cells.size = size) (hsz : 0 < size)
    (v : Value) (n : Nat) (xs : List Value) (hs : a.eval s = v) (H : Own V w (rowT e size v n xs :: L))
    (A : Option Addr) (m c : Nat) (news : List Value) (hx : a.eval x = .slice A m c) (hl : news.length = m * size) (h0 : A = none → m = 0) (hnews : ∀ a, A = some a → ∀ j u, news[j]? = some u → w.cell? (a.add j) = some u) (h1 : ∀ u ∈ news, u.oneCell' = true)
    (h63 : n + m ≤ maxLen) (hbytes : (n + m) * bytes ≤ 140737488355328) {k : Nat} (hk : n + m = k) {ys : List Value} (hys : xs ++ news = ys)
    (h : ∀ B c2 w', Own V w' (rowT e size (.slice B k c2) k ys :: L) → K (a.put o.dst (.slice B k c2)) w') : Oper.wp P o a w K Q := by
  subst hk hys
  obtain ⟨v', w', hr, h2, h3⟩ := run_append_any (P := P) w 0 t o.type e i z size bytes ht hi hz hsize hby hzs hsz v n xs H.head A m c news hl h0 hnews h1 h63 hbytes (Nat.zero_le _)
  have hb := append_block (P := P) ht hi hz hsize hby hzs hsz H.head hl h0 hnews h1 h63 hbytes hr
  unfold Oper.wp execOp
  simp only [ho, resolve, invoke, builtin, Sem.run_bind, Sem.run_pure, Result.andThen_ok, List.map_toArray, List.map_cons, List.map_nil, hs, hx, hr]
  obtain ⟨B, c2, rfl⟩ := ownsRow_shape h2
  refine h B c2 w' (H.turn (s := rowT e size (.slice B (n + m) c2) (n + m) (xs ++ news)) (grownBy_but h3) h2 (rowT_stable _ _ _ _ _) fun j hj => ?_)
  have hj2 : (Value.slice B (n + m) c2).ownBlock = some j := by simpa using hj
  refine ⟨?_, (h2.lt j hj2).2⟩
  rcases hb j hj2 with q | q
  · exact .inl (by simp [q])
  · exact .inr q
/-! ### The state -/
abbrev aggX (kx mx : ByteArray) (px v : Int) : Value := .agg #[.string kx, .string mx, .int .i64 px, .int .i64 v]
inductive SA (m : Nat) (M : List ItN) : Bool → Bool → Value → Value → List Thing → Prop
  | no (x y : Value) : SA m M false false x y []
  | all (b : Option Addr) (c : Nat) (y : Value) : SA m M true false (.slice b m c) y [rowI (.slice b m c) m M]
  | plain (x : Value) (b : Option Addr) (c : Nat) : SA m M true true x (.slice b m c) [rowJ (.slice b m c) m M]
inductive SB (m : Nat) (M rest : List ItN) : Bool → Bool → Bool → Bool → Value → Value → Value → Value → List Thing → Prop
  | no (x1 x2 x3 x4 : Value) : SB m M rest false false false false x1 x2 x3 x4 []
  | e (b : Nat) (x2 x3 x4 : Value) : SB m M rest true false false false (.slice (some ⟨b, 0, none⟩) 0 0) x2 x3 x4 [rowT 26 4 (.slice (some ⟨b, 0, none⟩) 0 0) 0 []]
  | one (b : Option Addr) (c : Nat) (x1 x3 x4 : Value) : SB m M rest true true false false x1 (.slice b (m - 1) c) x3 x4 [rowI (.slice b (m - 1) c) (m - 1) rest]
  | two (b : Option Addr) (c : Nat) (x1 x2 x4 : Value) : SB m M rest true true true false x1 x2 (.slice b m c) x4 [rowI (.slice b m c) m M]
  | plain (b : Option Addr) (c : Nat) (x1 x2 x3 : Value) : SB m M rest true true true true x1 x2 x3 (.slice b m c) [rowJ (.slice b m c) m M]
inductive SC (kx mx : ByteArray) (px v : Int) : Bool → Value → List Thing → Prop
  | no (x : Value) : SC kx mx px v false x []
  | o (b : Nat) : SC kx mx px v true (.slice (some ⟨b, 0, none⟩) 1 1) [blkT b #[.string kx, .string mx, .int .i64 px, .int .i64 v] 26]
inductive MemTA (V : World) (R : List Thing) (S : Nat) (L M rest : List ItN) (n m : Nat) (kx mx : ByteArray) (px v : Int) (b : Nat → Bool) (s : Nat → Value) (W : World) : Prop
  | before (hb : ∀ j, 2 ≤ j → b j = false) (K : SetIs V W R S L n) : MemTA V R S L M rest n m kx mx px v b s W
  | after (hb : b 2 = true) (w8 : World) (K : SetIs V w8 R S M (n + 1)) (A B C : List Thing) (H : Own w8 W (A ++ (B ++ C))) (hA : SA m M (b 6) (b 7) (s 55) (s 56) A) (hB : SB m M rest (b 8) (b 10) (b 13) (b 14) (s 57) (s 59) (s 62) (s 63) B) (hC : SC kx mx px v (b 12) (s 61) C) : MemTA V R S L M rest n m kx mx px v b s W
/-- The same memory, seen by other bits and slots that agree. -/
theorem MemTA.same {V : World} {R : List Thing} {S : Nat} {L M rest : List ItN} {n m : Nat} {kx mx : ByteArray} {px v : Int} {b b' : Nat → Bool} {s s' : Nat → Value} {W : World} (h : MemTA V R S L M rest n m kx mx px v b s W) {i d : Nat} (hi : i ∉ [2, 6, 7, 8, 10, 12, 13, 14]) (hd : d ∉ [55, 56, 57, 59, 61, 62, 63])
    (h2 : 2 ≤ i → ∃ j, 2 ≤ j ∧ b j = true) (hb : ∀ j, j ≠ i → b' j = b j) (hs : ∀ j, j ≠ d → s' j = s j) : MemTA V R S L M rest n m kx mx px v b' s' W := by
  have ne : ∀ j, j ∈ [2, 6, 7, 8, 10, 12, 13, 14] → b' j = b j := fun j hj => hb j fun e => hi (e ▸ hj)
  have se : ∀ j, j ∈ [55, 56, 57, 59, 61, 62, 63] → s' j = s j := fun j hj => hs j fun e => hd (e ▸ hj)
  cases h with
  | before hb0 K =>
    refine .before (fun j hj => ?_) K
    by_cases c : 2 ≤ i
    · obtain ⟨q, q1, q2⟩ := h2 c
      rw [hb0 q q1] at q2
      cases q2
    · rw [hb j (by omega)]; exact hb0 j hj
  | after hb0 w8 K A B C H hA hB hC =>
    refine .after (by rw [ne 2 (by decide)]; exact hb0) w8 K A B C H ?_ ?_ ?_
    · rw [ne 6 (by decide), ne 7 (by decide), se 55 (by decide), se 56 (by decide)]; exact hA
    · rw [ne 8 (by decide), ne 10 (by decide), ne 13 (by decide), ne 14 (by decide), se 57 (by decide), se 59 (by decide), se 62 (by decide), se 63 (by decide)]; exact hB
    · rw [ne 12 (by decide), se 61 (by decide)]; exact hC
/-- All of the set at S, in a world that has grown since. -/
theorem sall_w {V w8 W : World} {R Ls : List Thing} {S : Nat} {L : List ItN} {N n : Nat} (K : SetIs V w8 R S L N) (hN : N < 99990) (hn : L.length = n) (H : Own w8 W Ls) :
    Calls Try.prog 20 #[.pointer (some ⟨S, 0, none⟩)] W fun e w' => ∃ B c, e = .returned (.slice B n c) ∧ Own w8 w' (rowI (.slice B n c) n L :: Ls) := by
  obtain ⟨s, rfl, H8, hl⟩ := K.quiet H.wider
  subst hn
  have hz : (flatS s.gs).length = L.length := by
    obtain ⟨Ps, p1, _, rfl⟩ := hl.all
    rw [List.length_map, p1.length_eq]
  have hm : ∀ t ∈ s.things, t ∈ s.things ++ R := fun t ht => List.mem_append_left _ ht
  refine (uall_c (gm := s.gm) (ov := s.ov) (items := s.items) (last := s.last) (n := s.gs.length) (gs := s.gs) (L := L) (H8.holds _ (hm _ (.head _))) (H8.holds _ (hm _ (.tail _ (.head _)))) rfl (by have := hl.groups; omega)
    (fun g hg => ⟨grps_at (fun t ht => H8.holds t (hm t (.tail _ (.tail _ (.tail _ ht))))) hg, (hl.good.good g hg).1⟩) hz (by have := hl.len; omega) (fun qs p1 p2 => all_sorted hl.good hl.all p1 p2) hl.small).mono ?_
  rintro e w' ⟨B, c, e1, K1⟩
  exact ⟨B, c, e1, H.over K1⟩

def kvTA (S : Nat) (kx mx : ByteArray) (px v : Int) (RS : Value) : List (Nat × Nat × Value) :=
  [(0, 49, .pointer (some ⟨S, 0, none⟩)), (1, 50, aggX kx mx px v), (2, 51, .int .i64 0), (3, 52, .bool false), (4, 53, .bool false), (5, 54, .pointer (some ⟨S, 0, none⟩)), (9, 58, RS), (11, 60, aggX kx mx px v), (15, 64, .bool true), (16, 65, .bool false), (17, 66, .bool false)]
def dsTA : List Nat := [49, 50, 51, 52, 53, 54, 55, 56, 57, 58, 59, 60, 61, 62, 63, 64, 65, 66]
theorem MemTA.cells {V : World} {R : List Thing} {S : Nat} {L M rest : List ItN} {n m : Nat} {kx mx : ByteArray} {px v : Int} {b : Nat → Bool} {s : Nat → Value} {W : World} (h : MemTA V R S L M rest n m kx mx px v b s W) {B : Nat} (hm : blkT B #[.string kx, .string mx, .int .i64 px, .int .i64 v] 26 ∈ R) :
    W.cell? ⟨B, 0, none⟩ = some (.string kx) ∧ W.cell? ⟨B, 1, none⟩ = some (.string mx) ∧ W.cell? ⟨B, 2, none⟩ = some (.int .i64 px) ∧ W.cell? ⟨B, 3, none⟩ = some (.int .i64 v) := by
  cases h with
  | before _ K =>
    have hb := K.rest.holds _ hm
    exact ⟨blk_cell hb 0 rfl, blk_cell hb 1 rfl, blk_cell hb 2 rfl, blk_cell hb 3 rfl⟩
  | after _ w8 K A B C H _ _ _ =>
    have hb := (K.quiet H.wider).rest.holds _ hm
    exact ⟨blk_cell hb 0 rfl, blk_cell hb 1 rfl, blk_cell hb 2 rfl, blk_cell hb 3 rfl⟩
/-- The invariant. -/
structure InvTA (V : World) (R : List Thing) (S : Nat) (L M rest : List ItN) (n m : Nat) (kx mx : ByteArray) (px v : Int) (RS : Value) (a0 : Act) (listed : Array Bool) (a : Act) (W : World) : Prop where
  size : listed.size = 18
  stays : RestAt dsTA a0 a
  known : KnownAt (kvTA S kx mx px v RS) listed a
  mem : MemTA V R S L M rest n m kx mx px v (fun j => listed.getD j false) (fun d => a.eval (.tmp d)) W
section
variable {V : World} {R : List Thing} {S : Nat} {L M rest : List ItN} {n m : Nat} {kx mx : ByteArray} {px v : Int} {RS : Value} {a0 : Act} {listed : Array Bool} {a : Act} {W : World}
theorem InvTA.known_at (h : InvTA V R S L M rest n m kx mx px v RS a0 listed a W) {j d : Nat} {u : Value} (hm : (j, d, u) ∈ kvTA S kx mx px v RS) (hl : listed.getD j false = true) : a.eval (.tmp d) = u := h.known j d u hm hl
/-- A step that yields what is known ahead, in the same world. -/
theorem InvTA.pure (h : InvTA V R S L M rest n m kx mx px v RS a0 listed a W) (h0 : a0.tmps.size = 100) {i d : Nat} {u : Value} (hm : (i, d, u) ∈ kvTA S kx mx px v RS) (hd : d ∈ dsTA) (hd2 : d < 100)
    (hk : ∀ j e x, (j, e, x) ∈ kvTA S kx mx px v RS → (j = i → e = d ∧ x = u) ∧ (j ≠ i → e ≠ d)) (hi : i ∉ [2, 6, 7, 8, 10, 12, 13, 14]) (hs : d ∉ [55, 56, 57, 59, 61, 62, 63]) (h2 : 2 ≤ i → ∃ j, 2 ≤ j ∧ listed.getD j false = true) :
    InvTA V R S L M rest n m kx mx px v RS a0 (listed.setIfInBounds i true) (a.put (some d) u) W where
  size := by simp [h.size]
  stays := h.stays.put hd
  known := h.known.step (by rw [h.stays.1, h0]; exact hd2) hk
  mem := h.mem.same hi hs h2 (fun j hj => set_other hj) (fun j hj => Act.eval_put_ne _ _ _ _ (Ne.symm hj))
/-- A step that changes memory. -/
theorem InvTA.step (h : InvTA V R S L M rest n m kx mx px v RS a0 listed a W) (h0 : a0.tmps.size = 100) {i d : Nat} {u : Value} {W' : World} (hd : d ∈ dsTA) (hd2 : d < 100)
    (hk : ∀ j e x, (j, e, x) ∈ kvTA S kx mx px v RS → (j = i → e = d ∧ x = u) ∧ (j ≠ i → e ≠ d)) (hi : i < 18)
    (hm : ∀ (b' : Nat → Bool) (s' : Nat → Value), (∀ j, j ≠ i → b' j = listed.getD j false) → b' i = true → (∀ j, j ≠ d → s' j = a.eval (.tmp j)) → s' d = u → MemTA V R S L M rest n m kx mx px v b' s' W') :
    InvTA V R S L M rest n m kx mx px v RS a0 (listed.setIfInBounds i true) (a.put (some d) u) W' where
  size := by simp [h.size]
  stays := h.stays.put hd
  known := h.known.step (by rw [h.stays.1, h0]; exact hd2) hk
  mem := hm _ _ (fun j hj => set_other hj) (set_own (by rw [h.size]; exact hi)) (fun j hj => Act.eval_put_ne _ _ _ _ (Ne.symm hj)) (Act.eval_put_same _ _ _ (by rw [h.stays.1, h0]; exact hd2))
end
section
variable {V : World} {R : List Thing} {S : Nat} {L M rest : List ItN} {n m : Nat} {kx mx : ByteArray} {px v : Int} {b : Nat → Bool} {s : Nat → Value} {W : World}
theorem MemTA.set2 (h : MemTA V R S L M rest n m kx mx px v b s W) (h2 : b 2 = false) : (∀ j, 2 ≤ j → b j = false) ∧ SetIs V W R S L n := by
  cases h with
  | before hb K => exact ⟨hb, K⟩
  | after hb => rw [hb] at h2; cases h2
theorem MemTA.got (h : MemTA V R S L M rest n m kx mx px v b s W) (hj : ∃ j, 2 ≤ j ∧ b j = true) : b 2 = true ∧ ∃ w8, SetIs V w8 R S M (n + 1) ∧ ∃ A B C, Own w8 W (A ++ (B ++ C)) ∧ SA m M (b 6) (b 7) (s 55) (s 56) A ∧ SB m M rest (b 8) (b 10) (b 13) (b 14) (s 57) (s 59) (s 62) (s 63) B ∧ SC kx mx px v (b 12) (s 61) C := by
  cases h with
  | before hb K =>
    obtain ⟨q, q1, q2⟩ := hj
    rw [hb q q1] at q2
    cases q2
  | after hb w8 K A B C H hA hB hC => exact ⟨hb, w8, K, A, B, C, H, hA, hB, hC⟩
theorem MemTA.put2 (h : MemTA V R S L M rest n m kx mx px v b s W) (h2 : b 2 = false) (hN : n < 99990) (hf : FormN ⟨kx, mx, px, v⟩) (hk : kx.size < 1000000) (hm : mx.size < 1000000) (hM : butL L ⟨kx, mx, px, v⟩ ++ [⟨kx, mx, px, v⟩] = M) :
    Calls Try.prog 14 #[.pointer (some ⟨S, 0, none⟩), .agg #[.string kx, .string mx, .int .i64 px, .int .i64 v]] W fun e w' => e = .returned (.int .i64 0) ∧
      ∀ (b' : Nat → Bool) (s' : Nat → Value), (∀ j, j ≠ 2 → b' j = b j) → b' 2 = true → (∀ j, j ≠ 51 → s' j = s j) → s' 51 = .int .i64 0 → MemTA V R S L M rest n m kx mx px v b' s' w' := by
  obtain ⟨h0, K⟩ := h.set2 h2
  refine (sput_o K hN hf hk hm hM).mono ?_
  rintro e w' ⟨e1, K1⟩
  refine ⟨e1, fun b' s' hb hb2 hs hs2 => .after hb2 w' K1 [] [] [] (Own.nil (Wider.refl _)) ?_ ?_ ?_⟩
  · rw [hb 6 (by decide), hb 7 (by decide), h0 6 (by decide), h0 7 (by decide)]; exact .no _ _
  · rw [hb 8 (by decide), hb 10 (by decide), hb 13 (by decide), hb 14 (by decide), h0 8 (by decide), h0 10 (by decide), h0 13 (by decide), h0 14 (by decide)]; exact .no _ _ _ _
  · rw [hb 12 (by decide), h0 12 (by decide)]; exact .no _
theorem SA.none_ {x y : Value} {b6 b7 : Bool} {A : List Thing} (h : SA m M b6 b7 x y A) (h6 : b6 = false) : b7 = false ∧ A = [] := by
  subst h6; cases h; exact ⟨rfl, rfl⟩
theorem MemTA.all6 (h : MemTA V R S L M rest n m kx mx px v b s W) (hj : ∃ j, 2 ≤ j ∧ b j = true) (h6 : b 6 = false) (hN : n < 99980) (hM : M.length = m) :
    Calls Try.prog 20 #[.pointer (some ⟨S, 0, none⟩)] W fun e w' => ∃ u, e = .returned u ∧
      ∀ (b' : Nat → Bool) (s' : Nat → Value), (∀ j, j ≠ 6 → b' j = b j) → b' 6 = true → (∀ j, j ≠ 55 → s' j = s j) → s' 55 = u → MemTA V R S L M rest n m kx mx px v b' s' w' := by
  obtain ⟨h2, w8, K, A, B, C, H, hA, hB, hC⟩ := h.got hj
  obtain ⟨h7, rfl⟩ := hA.none_ h6
  refine (sall_w K (by omega) hM H).mono ?_
  rintro e w' ⟨X, c, e1, H1⟩
  refine ⟨_, e1, fun b' s' hb hb2 hs hs2 => .after (by rw [hb 2 (by decide)]; exact h2) w8 K [rowI (.slice X m c) m M] B C H1 ?_ ?_ ?_⟩
  · rw [hb2, hb 7 (by decide), h7, hs2]; exact .all _ _ _
  · rw [hb 8 (by decide), hb 10 (by decide), hb 13 (by decide), hb 14 (by decide), hs 57 (by decide), hs 59 (by decide), hs 62 (by decide), hs 63 (by decide)]; exact hB
  · rw [hb 12 (by decide), hs 61 (by decide)]; exact hC
theorem MemTA.plain7 (h : MemTA V R S L M rest n m kx mx px v b s W) (h6 : b 6 = true) (h7 : b 7 = false) (hM : M.length = m) (hm : m < 100000) {z : Value} (hz : s 55 = z) :
    Calls Try.prog 25 #[z] W fun e w' => ∃ u, e = .returned u ∧
      ∀ (b' : Nat → Bool) (s' : Nat → Value), (∀ j, j ≠ 7 → b' j = b j) → b' 7 = true → (∀ j, j ≠ 56 → s' j = s j) → s' 56 = u → MemTA V R S L M rest n m kx mx px v b' s' w' := by
  obtain ⟨h2, w8, K, A, B, C, H, hA, hB, hC⟩ := h.got ⟨6, by decide, h6⟩
  rw [h6, h7, hz] at hA
  clear hz
  cases hA with
  | all X c y =>
    refine (uplain_c H hM hm).mono ?_
    rintro e w' ⟨Y, c', e1, H1⟩
    refine ⟨_, e1, fun b' s' hb hb2 hs hs2 => .after (by rw [hb 2 (by decide)]; exact h2) w8 K [rowJ (.slice Y m c') m M] B C H1 ?_ ?_ ?_⟩
    · rw [hb2, hb 6 (by decide), h6, hs2]; exact .plain _ _ _
    · rw [hb 8 (by decide), hb 10 (by decide), hb 13 (by decide), hb 14 (by decide), hs 57 (by decide), hs 59 (by decide), hs 62 (by decide), hs 63 (by decide)]; exact hB
    · rw [hb 12 (by decide), hs 61 (by decide)]; exact hC
theorem perm_in (A B C : List Thing) (t : Thing) : (t :: (A ++ (B ++ C))).Perm (A ++ (t :: B ++ C)) := (List.perm_middle (l₁ := A) (l₂ := B ++ C)).symm
theorem SB.none_ {x1 x2 x3 x4 : Value} {b8 b10 b13 b14 : Bool} {B : List Thing} (h : SB m M rest b8 b10 b13 b14 x1 x2 x3 x4 B) (h8 : b8 = false) : b10 = false ∧ b13 = false ∧ b14 = false ∧ B = [] := by
  subst h8; cases h; exact ⟨rfl, rfl, rfl, rfl⟩
theorem MemTA.make8 (h : MemTA V R S L M rest n m kx mx px v b s W) (hj : ∃ j, 2 ≤ j ∧ b j = true) (h8 : b 8 = false) :
    ∀ (b' : Nat → Bool) (s' : Nat → Value), (∀ j, j ≠ 8 → b' j = b j) → b' 8 = true → (∀ j, j ≠ 57 → s' j = s j) → s' 57 = .slice (some ⟨W.heap.size, 0, none⟩) 0 0 → MemTA V R S L M rest n m kx mx px v b' s' (W.alloc (.cells #[] 26)) := by
  obtain ⟨h2, w8, K, A, B, C, H, hA, hB, hC⟩ := h.got hj
  obtain ⟨h10, h13, h14, rfl⟩ := hB.none_ h8
  intro b' s' hb hb2 hs hs2
  have H1 := ((H.blk #[] 26).rowShut (k := 4) (n := 0) (c := 0) (cur := []) (xs := []) (Nat.le_refl _) (Nat.zero_le _) rfl rfl).perm (perm_in A [] C _)
  refine .after (by rw [hb 2 (by decide)]; exact h2) w8 K A _ C H1 ?_ ?_ ?_
  · rw [hb 6 (by decide), hb 7 (by decide), hs 55 (by decide), hs 56 (by decide)]; exact hA
  · rw [hb2, hb 10 (by decide), hb 13 (by decide), hb 14 (by decide), h10, h13, h14, hs2]; exact .e _ _ _ _
  · rw [hb 12 (by decide), hs 61 (by decide)]; exact hC
theorem SC.none_ {x : Value} {b12 : Bool} {C : List Thing} (h : SC kx mx px v b12 x C) (h12 : b12 = false) : C = [] := by
  subst h12; cases h; rfl
theorem MemTA.make12 (h : MemTA V R S L M rest n m kx mx px v b s W) (hj : ∃ j, 2 ≤ j ∧ b j = true) (h12 : b 12 = false) :
    ∀ (b' : Nat → Bool) (s' : Nat → Value), (∀ j, j ≠ 12 → b' j = b j) → b' 12 = true → (∀ j, j ≠ 61 → s' j = s j) → s' 61 = .slice (some ⟨W.heap.size, 0, none⟩) 1 1 → MemTA V R S L M rest n m kx mx px v b' s' (W.alloc (.cells #[.string kx, .string mx, .int .i64 px, .int .i64 v] 26)) := by
  obtain ⟨h2, w8, K, A, B, C, H, hA, hB, hC⟩ := h.got hj
  obtain rfl := hC.none_ h12
  intro b' s' hb hb2 hs hs2
  have H1 := (H.blk #[.string kx, .string mx, .int .i64 px, .int .i64 v] 26).perm (show (_ :: (A ++ (B ++ []))).Perm (A ++ (B ++ [_])) from by
    rw [List.append_nil, ← List.append_assoc]
    exact List.perm_append_comm (l₁ := [_]))
  refine .after (by rw [hb 2 (by decide)]; exact h2) w8 K A B _ H1 ?_ ?_ ?_
  · rw [hb 6 (by decide), hb 7 (by decide), hs 55 (by decide), hs 56 (by decide)]; exact hA
  · rw [hb 8 (by decide), hb 10 (by decide), hb 13 (by decide), hb 14 (by decide), hs 57 (by decide), hs 59 (by decide), hs 62 (by decide), hs 63 (by decide)]; exact hB
  · rw [hb2, hs2]; exact .o _
theorem row_news {w : World} {E : TypeId} {k n c : Nat} {A : Option Addr} {xs : List Value} (h : w.ownsRow 0 E k (.slice A n c) n xs) : (A = none → n = 0) ∧ ∀ a, A = some a → ∀ j u, xs[j]? = some u → w.cell? (a.add j) = some u := by
  by_cases z : n = 0
  · refine ⟨fun _ => z, fun a _ j u hu => ?_⟩
    have := h.1
    rw [z, Nat.zero_mul] at this
    rw [List.eq_nil_of_length_eq_zero this] at hu
    simp at hu
  · obtain ⟨B, c2, e, hc⟩ := row_slice h (by omega)
    injection e with e1 e2 e3
    subst e1
    refine ⟨fun q => (by cases q), fun a e j u hu => ?_⟩
    injection e with e
    subst e
    rw [Addr.add_lit, Nat.zero_add]
    exact hc j u hu
set_option maxRecDepth 20000 in
theorem MemTA.app10 {o : Oper} {a : Act} {K' : Act → World → Prop} {Q : Exit → Act → World → Prop} (h : MemTA V R S L M rest n m kx mx px v b (fun d => a.eval (.tmp d)) W) (ho : o.op = Op.call { callee := Callee.builtin Builtin.append, args := #[.tmp 57, .tmp 58], argTypes := #[38, 38] })
    (h8 : b 8 = true) (h10 : b 10 = false) {B7 : Option Addr} {c7 : Nat} (h58 : a.eval (.tmp 58) = .slice B7 (m - 1) c7) (hR : rowI (.slice B7 (m - 1) c7) (m - 1) rest ∈ R) (hrl : rest.length = m - 1) (hm : m < 100000)
    (hK : ∀ u w', (∀ (b' : Nat → Bool) (s' : Nat → Value), (∀ j, j ≠ 10 → b' j = b j) → b' 10 = true → (∀ j, j ≠ 59 → s' j = a.eval (.tmp j)) → s' 59 = u → MemTA V R S L M rest n m kx mx px v b' s' w') → K' (a.put o.dst u) w') : Oper.wp Try.prog o a W K' Q := by
  obtain ⟨h2, w8, K, A, B, C, H, hA, hB, hC⟩ := h.got ⟨8, by decide, h8⟩
  rw [h8, h10] at hB
  generalize h13 : b 13 = b13 at hB
  generalize h14 : b 14 = b14 at hB
  generalize h57 : a.eval (.tmp 57) = x57 at hB
  obtain ⟨i0, hi, hz0, hz1, hz2⟩ := info_parts infoItem
  cases hB with
  | e bb x2 x3 x4 =>
    have hrow := (K.quiet H.wider).rest.holds _ hR
    obtain ⟨n1, n2⟩ := row_news hrow
    have H1 := H.perm (perm_in A [] C _).symm
    refine wp_append_thing (.tmp 57) (.tmp 58) 38 ho 26 i0 (.agg #[.string ⟨#[]⟩, .string ⟨#[]⟩, .int .i64 0, .int .i64 0]) 4 48 Try.underlying38 hi hz0 hz1 hz2 rfl (by decide) _ 0 [] h57 H1 B7 (m - 1) c7 (cellsI rest) h58 (by rw [cellsI_length, hrl]) n1 n2 (cellsI_one _) (by unfold maxLen; omega) (by omega) (Nat.zero_add (m - 1)) (List.nil_append _) fun X c w' H2 => ?_
    refine hK _ _ fun b' s' hb hb2 hs hs2 => .after (by rw [hb 2 (by decide)]; exact h2) w8 K A [rowI (.slice X (m - 1) c) (m - 1) rest] C (H2.perm (perm_in A [] C _)) ?_ ?_ ?_
    · rw [hb 6 (by decide), hb 7 (by decide), hs 55 (by decide), hs 56 (by decide)]; exact hA
    · rw [hb 8 (by decide), hb2, hb 13 (by decide), hb 14 (by decide), h8, h13, h14, hs2]; exact .one _ _ _ _ _
    · rw [hb 12 (by decide), hs 61 (by decide)]; exact hC
set_option maxRecDepth 20000 in
theorem MemTA.app13 {o : Oper} {a : Act} {K' : Act → World → Prop} {Q : Exit → Act → World → Prop} (h : MemTA V R S L M rest n m kx mx px v b (fun d => a.eval (.tmp d)) W) (ho : o.op = Op.call { callee := Callee.builtin Builtin.append, args := #[.tmp 59, .tmp 61], argTypes := #[38, 38] })
    (h10 : b 10 = true) (h12 : b 12 = true) (h13 : b 13 = false) (hm : m < 100000) (hm0 : 0 < m) (hM : rest ++ [⟨kx, mx, px, v⟩] = M)
    (hK : ∀ u w', (∀ (b' : Nat → Bool) (s' : Nat → Value), (∀ j, j ≠ 13 → b' j = b j) → b' 13 = true → (∀ j, j ≠ 62 → s' j = a.eval (.tmp j)) → s' 62 = u → MemTA V R S L M rest n m kx mx px v b' s' w') → K' (a.put o.dst u) w') : Oper.wp Try.prog o a W K' Q := by
  obtain ⟨h2, w8, K, A, B, C, H, hA, hB, hC⟩ := h.got ⟨10, by decide, h10⟩
  rw [h10, h13] at hB
  rw [h12] at hC
  generalize h8 : b 8 = b8 at hB
  generalize h14 : b 14 = b14 at hB
  generalize h59 : a.eval (.tmp 59) = x59 at hB
  generalize h61 : a.eval (.tmp 61) = x61 at hC
  obtain ⟨i0, hi, hz0, hz1, hz2⟩ := info_parts infoItem
  cases hC with
  | o bo =>
  cases hB with
  | one bb c x1 x3 x4 =>
    have hblk : W.heap[bo]? = some (.cells #[.string kx, .string mx, .int .i64 px, .int .i64 v] 26 (0, 0)) := H.holds (blkT bo #[.string kx, .string mx, .int .i64 px, .int .i64 v] 26) (by simp)
    have H1 := H.perm (perm_in A [] _ _).symm
    refine wp_append_thing (.tmp 59) (.tmp 61) 38 ho 26 i0 (.agg #[.string ⟨#[]⟩, .string ⟨#[]⟩, .int .i64 0, .int .i64 0]) 4 48 Try.underlying38 hi hz0 hz1 hz2 rfl (by decide) _ (m - 1) (cellsI rest) h59 H1 (some ⟨bo, 0, none⟩) 1 1 [.string kx, .string mx, .int .i64 px, .int .i64 v] h61 rfl (fun q => by cases q) (fun q e j u hu => by
        injection e with e
        subst e
        rw [Addr.add_lit, Nat.zero_add]
        exact blk_cell hblk j (by simpa using hu)) (cellsI_one [⟨kx, mx, px, v⟩]) (by unfold maxLen; omega) (by omega) (k := m) (by omega) (ys := cellsI M) (by rw [← hM, cellsI_append]; rfl) fun X c w' H2 => ?_
    refine hK _ _ fun b' s' hb hb2 hs hs2 => .after (by rw [hb 2 (by decide)]; exact h2) w8 K A [rowI (.slice X m c) m M] _ (H2.perm (perm_in A [] _ _)) ?_ ?_ ?_
    · rw [hb 6 (by decide), hb 7 (by decide), hs 55 (by decide), hs 56 (by decide)]; exact hA
    · rw [hb 8 (by decide), hb 10 (by decide), hb2, hb 14 (by decide), h8, h10, h14, hs2]; exact .two _ _ _ _ _
    · rw [hb 12 (by decide), h12, hs 61 (by decide), h61]; exact .o _
theorem MemTA.plain14 (h : MemTA V R S L M rest n m kx mx px v b s W) (h13 : b 13 = true) (h14 : b 14 = false) (hM : M.length = m) (hm : m < 100000) {z : Value} (hz : s 62 = z) :
    Calls Try.prog 25 #[z] W fun e w' => ∃ u, e = .returned u ∧
      ∀ (b' : Nat → Bool) (s' : Nat → Value), (∀ j, j ≠ 14 → b' j = b j) → b' 14 = true → (∀ j, j ≠ 63 → s' j = s j) → s' 63 = u → MemTA V R S L M rest n m kx mx px v b' s' w' := by
  obtain ⟨h2, w8, K, A, B, C, H, hA, hB, hC⟩ := h.got ⟨13, by decide, h13⟩
  rw [h13, h14] at hB
  generalize h8 : b 8 = b8 at hB
  generalize h10 : b 10 = b10 at hB
  rw [hz] at hB
  clear hz
  cases hB with
  | two X c x1 x2 x4 =>
    refine (uplain_c (H.perm (perm_in A [] C _).symm) hM hm).mono ?_
    rintro e w' ⟨Y, c', e1, H1⟩
    refine ⟨_, e1, fun b' s' hb hb2 hs hs2 => .after (by rw [hb 2 (by decide)]; exact h2) w8 K A [rowJ (.slice Y m c') m M] C (H1.perm (perm_in A [] C _)) ?_ ?_ ?_⟩
    · rw [hb 6 (by decide), hb 7 (by decide), hs 55 (by decide), hs 56 (by decide)]; exact hA
    · rw [hb 8 (by decide), hb 10 (by decide), hb 13 (by decide), hb2, h8, h10, h13, hs2]; exact .plain _ _ _ _ _
    · rw [hb 12 (by decide), hs 61 (by decide)]; exact hC
theorem SA.plain_ {x y : Value} {b6 b7 : Bool} {A : List Thing} (h : SA m M b6 b7 x y A) (h7 : b7 = true) : ∃ b c, y = .slice b m c ∧ A = [rowJ (.slice b m c) m M] := by
  subst h7; cases h; exact ⟨_, _, rfl, rfl⟩
theorem SB.plain_ {x1 x2 x3 x4 : Value} {b8 b10 b13 b14 : Bool} {B : List Thing} (h : SB m M rest b8 b10 b13 b14 x1 x2 x3 x4 B) (h14 : b14 = true) : ∃ b c, x4 = .slice b m c ∧ B = [rowJ (.slice b m c) m M] := by
  subst h14; cases h; exact ⟨_, _, rfl, rfl⟩
theorem MemTA.same15 (h : MemTA V R S L M rest n m kx mx px v b s W) (h7 : b 7 = true) (h14 : b 14 = true) (hM : M.length = m) (hm : m < 100000) {y z : Value} (hy : s 56 = y) (hz : s 63 = z) :
    Calls Try.prog 24 #[y, z] W fun e w' => e = .returned (.bool true) ∧
      ∀ (b' : Nat → Bool) (s' : Nat → Value), (∀ j, j ≠ 15 → b' j = b j) → (∀ j, j ≠ 64 → s' j = s j) → MemTA V R S L M rest n m kx mx px v b' s' w' := by
  obtain ⟨h2, w8, K, A, B, C, H, hA, hB, hC⟩ := h.got ⟨7, by decide, h7⟩
  obtain ⟨X, c, e1, e2⟩ := hA.plain_ h7
  obtain ⟨Y, d, e3, e4⟩ := hB.plain_ h14
  rw [← hy, ← hz, e1, e3]
  refine (usame_c H (by rw [e2]; simp) (by rw [e4]; simp) hM hm).mono ?_
  rintro e w' ⟨e5, H1⟩
  refine ⟨e5, fun b' s' hb hs => .after (by rw [hb 2 (by decide)]; exact h2) w8 K A B C H1 ?_ ?_ ?_⟩
  · rw [hb 6 (by decide), hb 7 (by decide), hs 55 (by decide), hs 56 (by decide)]; exact hA
  · rw [hb 8 (by decide), hb 10 (by decide), hb 13 (by decide), hb 14 (by decide), hs 57 (by decide), hs 59 (by decide), hs 62 (by decide), hs 63 (by decide)]; exact hB
  · rw [hb 12 (by decide), hs 61 (by decide)]; exact hC
end

end Go.Proofs.Ytjjgdnaejeejlaa
