/- Literals of messages: one object set, and the slice of eight of them; the helpers of layer 8's laws on messages by parts. -/
import Derived.Test.YtlldgmdgogkdiaaGreatOMsgA
import Derived.Test.YtlldgmdgogkdiaaGreatOReads
import Derived.Test.YtlldgmdgogkdiaaGreatOPuts
import Derived.Laws.Tables
namespace Go.Proofs.YtlldgmdgogkdiaaGreat
set_option linter.unusedVariables false
set_option maxRecDepth 20000
open Go.ChangeShapes Go.WideShapes Go.ChangeAt Go.RowKit Go.Joins
open Go.ChangeMaps (open_string shut_string)

theorem zM_size : zM.size = 52 := rfl
def zV (k : Nat) : List ValN := zeroG (csKind k)
theorem zM_rep (w : World) : RepA w zM zV := ⟨rfl, zeroNode w, zeroField w, zeroTable w, zeroEntry w, zeroBlock w, zeroGroup w, zeroMeter w, zeroRegs w⟩
theorem build0 (w : World) : (Instr.build 46 #[]).run Tryz.prog w = .ok (.agg zM) w := run_build w _ #[] zM (by kernel_rfl)
theorem buildNode (w : World) {c : Array Value} (hc : c.size = 9) : (Instr.build 46 #[(11, .agg c)]).run Tryz.prog w = .ok (.agg (setPart zM 11 c)) w := by
  obtain ⟨c0, c1, c2, c3, c4, c5, c6, c7, c8, rfl⟩ := arr9 hc
  exact run_build w _ _ (setPart zM 11 #[c0, c1, c2, c3, c4, c5, c6, c7, c8]) (by kernel_rfl)
theorem buildField (w : World) {c : Array Value} (hc : c.size = 5) : (Instr.build 46 #[(12, .agg c)]).run Tryz.prog w = .ok (.agg (setPart zM 20 c)) w := by
  obtain ⟨c0, c1, c2, c3, c4, rfl⟩ := arr5 hc
  exact run_build w _ _ (setPart zM 20 #[c0, c1, c2, c3, c4]) (by kernel_rfl)
theorem buildTable (w : World) {c : Array Value} (hc : c.size = 5) : (Instr.build 46 #[(13, .agg c)]).run Tryz.prog w = .ok (.agg (setPart zM 25 c)) w := by
  obtain ⟨c0, c1, c2, c3, c4, rfl⟩ := arr5 hc
  exact run_build w _ _ (setPart zM 25 #[c0, c1, c2, c3, c4]) (by kernel_rfl)
theorem buildEntry (w : World) {c : Array Value} (hc : c.size = 11) : (Instr.build 46 #[(14, .agg c)]).run Tryz.prog w = .ok (.agg (setPart zM 30 c)) w := by
  obtain ⟨c0, c1, c2, c3, c4, c5, c6, c7, c8, c9, c10, rfl⟩ := arr11 hc
  exact run_build w _ _ (setPart zM 30 #[c0, c1, c2, c3, c4, c5, c6, c7, c8, c9, c10]) (by kernel_rfl)
theorem buildBlock (w : World) {c : Array Value} (hc : c.size = 2) : (Instr.build 46 #[(15, .agg c)]).run Tryz.prog w = .ok (.agg (setPart zM 41 c)) w := by
  obtain ⟨c0, c1, rfl⟩ := arr2 hc
  exact run_build w _ _ (setPart zM 41 #[c0, c1]) (by kernel_rfl)
theorem buildGroup (w : World) {c : Array Value} (hc : c.size = 4) : (Instr.build 46 #[(16, .agg c)]).run Tryz.prog w = .ok (.agg (setPart zM 43 c)) w := by
  obtain ⟨c0, c1, c2, c3, rfl⟩ := arr4 hc
  exact run_build w _ _ (setPart zM 43 #[c0, c1, c2, c3]) (by kernel_rfl)
theorem buildMeter (w : World) {c : Array Value} (hc : c.size = 3) : (Instr.build 46 #[(17, .agg c)]).run Tryz.prog w = .ok (.agg (setPart zM 47 c)) w := by
  obtain ⟨c0, c1, c2, rfl⟩ := arr3 hc
  exact run_build w _ _ (setPart zM 47 #[c0, c1, c2]) (by kernel_rfl)
theorem buildRegs (w : World) {c : Array Value} (hc : c.size = 2) : (Instr.build 46 #[(18, .agg c)]).run Tryz.prog w = .ok (.agg (setPart zM 50 c)) w := by
  obtain ⟨c0, c1, rfl⟩ := arr2 hc
  exact run_build w _ _ (setPart zM 50 #[c0, c1]) (by kernel_rfl)
theorem setNode {w : World} {c : Array Value} {vs : List ValN} (h : RepNode w c vs) : RepA w (setPart zM 11 c) (fun j => if j = 0 then vs else zV j) := by
  have hs : c.size = 9 := h.size
  have hl : 11 + c.size ≤ zM.size := by rw [hs]; decide
  have zr := zM_rep w
  exact ⟨by rw [setPart_size hl]; rfl, by rw [setPart_self (by rw [hs]) hl]; exact h, by rw [setPart_apart hl (by decide) (by rw [hs]; decide)]; exact zr.r1, by rw [setPart_apart hl (by decide) (by rw [hs]; decide)]; exact zr.r2, by rw [setPart_apart hl (by decide) (by rw [hs]; decide)]; exact zr.r3, by rw [setPart_apart hl (by decide) (by rw [hs]; decide)]; exact zr.r4, by rw [setPart_apart hl (by decide) (by rw [hs]; decide)]; exact zr.r5, by rw [setPart_apart hl (by decide) (by rw [hs]; decide)]; exact zr.r6, by rw [setPart_apart hl (by decide) (by rw [hs]; decide)]; exact zr.r7⟩
theorem setField {w : World} {c : Array Value} {vs : List ValN} (h : RepField w c vs) : RepA w (setPart zM 20 c) (fun j => if j = 1 then vs else zV j) := by
  have hs : c.size = 5 := h.size
  have hl : 20 + c.size ≤ zM.size := by rw [hs]; decide
  have zr := zM_rep w
  exact ⟨by rw [setPart_size hl]; rfl, by rw [setPart_apart hl (by decide) (by rw [hs]; decide)]; exact zr.r0, by rw [setPart_self (by rw [hs]) hl]; exact h, by rw [setPart_apart hl (by decide) (by rw [hs]; decide)]; exact zr.r2, by rw [setPart_apart hl (by decide) (by rw [hs]; decide)]; exact zr.r3, by rw [setPart_apart hl (by decide) (by rw [hs]; decide)]; exact zr.r4, by rw [setPart_apart hl (by decide) (by rw [hs]; decide)]; exact zr.r5, by rw [setPart_apart hl (by decide) (by rw [hs]; decide)]; exact zr.r6, by rw [setPart_apart hl (by decide) (by rw [hs]; decide)]; exact zr.r7⟩
theorem setTable {w : World} {c : Array Value} {vs : List ValN} (h : RepTable w c vs) : RepA w (setPart zM 25 c) (fun j => if j = 2 then vs else zV j) := by
  have hs : c.size = 5 := h.size
  have hl : 25 + c.size ≤ zM.size := by rw [hs]; decide
  have zr := zM_rep w
  exact ⟨by rw [setPart_size hl]; rfl, by rw [setPart_apart hl (by decide) (by rw [hs]; decide)]; exact zr.r0, by rw [setPart_apart hl (by decide) (by rw [hs]; decide)]; exact zr.r1, by rw [setPart_self (by rw [hs]) hl]; exact h, by rw [setPart_apart hl (by decide) (by rw [hs]; decide)]; exact zr.r3, by rw [setPart_apart hl (by decide) (by rw [hs]; decide)]; exact zr.r4, by rw [setPart_apart hl (by decide) (by rw [hs]; decide)]; exact zr.r5, by rw [setPart_apart hl (by decide) (by rw [hs]; decide)]; exact zr.r6, by rw [setPart_apart hl (by decide) (by rw [hs]; decide)]; exact zr.r7⟩
theorem setEntry {w : World} {c : Array Value} {vs : List ValN} (h : RepEntry w c vs) : RepA w (setPart zM 30 c) (fun j => if j = 3 then vs else zV j) := by
  have hs : c.size = 11 := h.size
  have hl : 30 + c.size ≤ zM.size := by rw [hs]; decide
  have zr := zM_rep w
  exact ⟨by rw [setPart_size hl]; rfl, by rw [setPart_apart hl (by decide) (by rw [hs]; decide)]; exact zr.r0, by rw [setPart_apart hl (by decide) (by rw [hs]; decide)]; exact zr.r1, by rw [setPart_apart hl (by decide) (by rw [hs]; decide)]; exact zr.r2, by rw [setPart_self (by rw [hs]) hl]; exact h, by rw [setPart_apart hl (by decide) (by rw [hs]; decide)]; exact zr.r4, by rw [setPart_apart hl (by decide) (by rw [hs]; decide)]; exact zr.r5, by rw [setPart_apart hl (by decide) (by rw [hs]; decide)]; exact zr.r6, by rw [setPart_apart hl (by decide) (by rw [hs]; decide)]; exact zr.r7⟩
theorem setBlock {w : World} {c : Array Value} {vs : List ValN} (h : RepBlock w c vs) : RepA w (setPart zM 41 c) (fun j => if j = 4 then vs else zV j) := by
  have hs : c.size = 2 := h.size
  have hl : 41 + c.size ≤ zM.size := by rw [hs]; decide
  have zr := zM_rep w
  exact ⟨by rw [setPart_size hl]; rfl, by rw [setPart_apart hl (by decide) (by rw [hs]; decide)]; exact zr.r0, by rw [setPart_apart hl (by decide) (by rw [hs]; decide)]; exact zr.r1, by rw [setPart_apart hl (by decide) (by rw [hs]; decide)]; exact zr.r2, by rw [setPart_apart hl (by decide) (by rw [hs]; decide)]; exact zr.r3, by rw [setPart_self (by rw [hs]) hl]; exact h, by rw [setPart_apart hl (by decide) (by rw [hs]; decide)]; exact zr.r5, by rw [setPart_apart hl (by decide) (by rw [hs]; decide)]; exact zr.r6, by rw [setPart_apart hl (by decide) (by rw [hs]; decide)]; exact zr.r7⟩
theorem setGroup {w : World} {c : Array Value} {vs : List ValN} (h : RepGroup w c vs) : RepA w (setPart zM 43 c) (fun j => if j = 5 then vs else zV j) := by
  have hs : c.size = 4 := h.size
  have hl : 43 + c.size ≤ zM.size := by rw [hs]; decide
  have zr := zM_rep w
  exact ⟨by rw [setPart_size hl]; rfl, by rw [setPart_apart hl (by decide) (by rw [hs]; decide)]; exact zr.r0, by rw [setPart_apart hl (by decide) (by rw [hs]; decide)]; exact zr.r1, by rw [setPart_apart hl (by decide) (by rw [hs]; decide)]; exact zr.r2, by rw [setPart_apart hl (by decide) (by rw [hs]; decide)]; exact zr.r3, by rw [setPart_apart hl (by decide) (by rw [hs]; decide)]; exact zr.r4, by rw [setPart_self (by rw [hs]) hl]; exact h, by rw [setPart_apart hl (by decide) (by rw [hs]; decide)]; exact zr.r6, by rw [setPart_apart hl (by decide) (by rw [hs]; decide)]; exact zr.r7⟩
theorem setMeter {w : World} {c : Array Value} {vs : List ValN} (h : RepMeter w c vs) : RepA w (setPart zM 47 c) (fun j => if j = 6 then vs else zV j) := by
  have hs : c.size = 3 := h.size
  have hl : 47 + c.size ≤ zM.size := by rw [hs]; decide
  have zr := zM_rep w
  exact ⟨by rw [setPart_size hl]; rfl, by rw [setPart_apart hl (by decide) (by rw [hs]; decide)]; exact zr.r0, by rw [setPart_apart hl (by decide) (by rw [hs]; decide)]; exact zr.r1, by rw [setPart_apart hl (by decide) (by rw [hs]; decide)]; exact zr.r2, by rw [setPart_apart hl (by decide) (by rw [hs]; decide)]; exact zr.r3, by rw [setPart_apart hl (by decide) (by rw [hs]; decide)]; exact zr.r4, by rw [setPart_apart hl (by decide) (by rw [hs]; decide)]; exact zr.r5, by rw [setPart_self (by rw [hs]) hl]; exact h, by rw [setPart_apart hl (by decide) (by rw [hs]; decide)]; exact zr.r7⟩
theorem setRegs {w : World} {c : Array Value} {vs : List ValN} (h : RepRegs w c vs) : RepA w (setPart zM 50 c) (fun j => if j = 7 then vs else zV j) := by
  have hs : c.size = 2 := h.size
  have hl : 50 + c.size ≤ zM.size := by rw [hs]; decide
  have zr := zM_rep w
  exact ⟨by rw [setPart_size hl]; rfl, by rw [setPart_apart hl (by decide) (by rw [hs]; decide)]; exact zr.r0, by rw [setPart_apart hl (by decide) (by rw [hs]; decide)]; exact zr.r1, by rw [setPart_apart hl (by decide) (by rw [hs]; decide)]; exact zr.r2, by rw [setPart_apart hl (by decide) (by rw [hs]; decide)]; exact zr.r3, by rw [setPart_apart hl (by decide) (by rw [hs]; decide)]; exact zr.r4, by rw [setPart_apart hl (by decide) (by rw [hs]; decide)]; exact zr.r5, by rw [setPart_apart hl (by decide) (by rw [hs]; decide)]; exact zr.r6, by rw [setPart_self (by rw [hs]) hl]; exact h⟩
theorem build8 {A0 A1 A2 A3 A4 A5 A6 A7 : Array Value} (h0 : A0.size = 52) (h1 : A1.size = 52) (h2 : A2.size = 52) (h3 : A3.size = 52) (h4 : A4.size = 52) (h5 : A5.size = 52) (h6 : A6.size = 52) (h7 : A7.size = 52) : ∃ R, (∀ w : World, (Instr.buildSlice 72 8 #[(0, .agg A0), (1, .agg A1), (2, .agg A2), (3, .agg A3), (4, .agg A4), (5, .agg A5), (6, .agg A6), (7, .agg A7)]).run Tryz.prog w = .ok (.slice (some ⟨w.heap.size, 0, none⟩) 8 8) (w.alloc (.cells R 46))) ∧ R.size = 416 ∧
    ∀ k X, [A0, A1, A2, A3, A4, A5, A6, A7][k]? = some X → R.extract (k * 52) (k * 52 + 52) = X := by
  have hz : (Tryz.prog.info? 46).map (fun i => (i.zero, i.size)) = some (some (.agg zM), 52) := by kernel_rfl
  obtain ⟨Z, hZ⟩ : ∃ Z : Array Value, zM = Z := ⟨_, rfl⟩
  rw [hZ] at hz
  clear hZ
  obtain ⟨i, hi, hi2⟩ := Option.map_eq_some_iff.1 hz
  simp only [Prod.mk.injEq] at hi2
  obtain ⟨z1, z2⟩ := hi2
  obtain ⟨C, hC⟩ : ∃ C : Array Value, (Array.range (8 * 52)).map (fun x => Z[x % Z.size]!) = C := ⟨_, rfl⟩
  have hs : C.size = 416 := by rw [← hC]; simp
  have s0 : (setPart C 0 A0).size = 416 := by rw [setPart_size (by rw [h0, hs]; decide)]; exact hs
  have s1 : (setPart (setPart C 0 A0) 52 A1).size = 416 := by rw [setPart_size (by rw [h1, s0]; decide)]; exact s0
  have s2 : (setPart (setPart (setPart C 0 A0) 52 A1) 104 A2).size = 416 := by rw [setPart_size (by rw [h2, s1]; decide)]; exact s1
  have s3 : (setPart (setPart (setPart (setPart C 0 A0) 52 A1) 104 A2) 156 A3).size = 416 := by rw [setPart_size (by rw [h3, s2]; decide)]; exact s2
  have s4 : (setPart (setPart (setPart (setPart (setPart C 0 A0) 52 A1) 104 A2) 156 A3) 208 A4).size = 416 := by rw [setPart_size (by rw [h4, s3]; decide)]; exact s3
  have s5 : (setPart (setPart (setPart (setPart (setPart (setPart C 0 A0) 52 A1) 104 A2) 156 A3) 208 A4) 260 A5).size = 416 := by rw [setPart_size (by rw [h5, s4]; decide)]; exact s4
  have s6 : (setPart (setPart (setPart (setPart (setPart (setPart (setPart C 0 A0) 52 A1) 104 A2) 156 A3) 208 A4) 260 A5) 312 A6).size = 416 := by rw [setPart_size (by rw [h6, s5]; decide)]; exact s5
  have s7 : (setPart (setPart (setPart (setPart (setPart (setPart (setPart (setPart C 0 A0) 52 A1) 104 A2) 156 A3) 208 A4) 260 A5) 312 A6) 364 A7).size = 416 := by rw [setPart_size (by rw [h7, s6]; decide)]; exact s6
  refine ⟨(setPart (setPart (setPart (setPart (setPart (setPart (setPart (setPart C 0 A0) 52 A1) 104 A2) 156 A3) 208 A4) 260 A5) 312 A6) 364 A7), fun w => ?_, s7, ?_⟩
  · have hf : Instr.fill (fun x => some (x * 52, 52)) C [(0, .agg A0), (1, .agg A1), (2, .agg A2), (3, .agg A3), (4, .agg A4), (5, .agg A5), (6, .agg A6), (7, .agg A7)] = some (setPart (setPart (setPart (setPart (setPart (setPart (setPart (setPart C 0 A0) 52 A1) 104 A2) 156 A3) 208 A4) 260 A5) 312 A6) 364 A7) := by
      rw [fill_cons (c := A0) (off := 0) rfl (by rw [h0]) (by rw [h0, hs]; decide)]
      rw [fill_cons (c := A1) (off := 52) rfl (by rw [h1]) (by rw [h1, s0]; decide)]
      rw [fill_cons (c := A2) (off := 104) rfl (by rw [h2]) (by rw [h2, s1]; decide)]
      rw [fill_cons (c := A3) (off := 156) rfl (by rw [h3]) (by rw [h3, s2]; decide)]
      rw [fill_cons (c := A4) (off := 208) rfl (by rw [h4]) (by rw [h4, s3]; decide)]
      rw [fill_cons (c := A5) (off := 260) rfl (by rw [h5]) (by rw [h5, s4]; decide)]
      rw [fill_cons (c := A6) (off := 312) rfl (by rw [h6]) (by rw [h6, s5]; decide)]
      rw [fill_cons (c := A7) (off := 364) rfl (by rw [h7]) (by rw [h7, s6]; decide)]
      exact fill_nil
    simp [Instr.buildSlice, run_underlying Tryz.underlying72, sizeOf, typeInfo, zeroValue, hi, z1, z2, Value.cells, newRow, hC, hf]
  · intro k X hX
    match k, hX with
    | 0, hX =>
      obtain rfl : A0 = X := by simpa using hX
      rw [setPart_apart (o := 364) (a := 0 * 52) (b := 0 * 52 + 52) (by rw [h7, s6]; decide) (by rw [s6]; decide) (by rw [h7]; decide)]
      rw [setPart_apart (o := 312) (a := 0 * 52) (b := 0 * 52 + 52) (by rw [h6, s5]; decide) (by rw [s5]; decide) (by rw [h6]; decide)]
      rw [setPart_apart (o := 260) (a := 0 * 52) (b := 0 * 52 + 52) (by rw [h5, s4]; decide) (by rw [s4]; decide) (by rw [h5]; decide)]
      rw [setPart_apart (o := 208) (a := 0 * 52) (b := 0 * 52 + 52) (by rw [h4, s3]; decide) (by rw [s3]; decide) (by rw [h4]; decide)]
      rw [setPart_apart (o := 156) (a := 0 * 52) (b := 0 * 52 + 52) (by rw [h3, s2]; decide) (by rw [s2]; decide) (by rw [h3]; decide)]
      rw [setPart_apart (o := 104) (a := 0 * 52) (b := 0 * 52 + 52) (by rw [h2, s1]; decide) (by rw [s1]; decide) (by rw [h2]; decide)]
      rw [setPart_apart (o := 52) (a := 0 * 52) (b := 0 * 52 + 52) (by rw [h1, s0]; decide) (by rw [s0]; decide) (by rw [h1]; decide)]
      exact setPart_self (by rw [h0]) (by rw [h0, hs]; decide)
    | 1, hX =>
      obtain rfl : A1 = X := by simpa using hX
      rw [setPart_apart (o := 364) (a := 1 * 52) (b := 1 * 52 + 52) (by rw [h7, s6]; decide) (by rw [s6]; decide) (by rw [h7]; decide)]
      rw [setPart_apart (o := 312) (a := 1 * 52) (b := 1 * 52 + 52) (by rw [h6, s5]; decide) (by rw [s5]; decide) (by rw [h6]; decide)]
      rw [setPart_apart (o := 260) (a := 1 * 52) (b := 1 * 52 + 52) (by rw [h5, s4]; decide) (by rw [s4]; decide) (by rw [h5]; decide)]
      rw [setPart_apart (o := 208) (a := 1 * 52) (b := 1 * 52 + 52) (by rw [h4, s3]; decide) (by rw [s3]; decide) (by rw [h4]; decide)]
      rw [setPart_apart (o := 156) (a := 1 * 52) (b := 1 * 52 + 52) (by rw [h3, s2]; decide) (by rw [s2]; decide) (by rw [h3]; decide)]
      rw [setPart_apart (o := 104) (a := 1 * 52) (b := 1 * 52 + 52) (by rw [h2, s1]; decide) (by rw [s1]; decide) (by rw [h2]; decide)]
      exact setPart_self (by rw [h1]) (by rw [h1, s0]; decide)
    | 2, hX =>
      obtain rfl : A2 = X := by simpa using hX
      rw [setPart_apart (o := 364) (a := 2 * 52) (b := 2 * 52 + 52) (by rw [h7, s6]; decide) (by rw [s6]; decide) (by rw [h7]; decide)]
      rw [setPart_apart (o := 312) (a := 2 * 52) (b := 2 * 52 + 52) (by rw [h6, s5]; decide) (by rw [s5]; decide) (by rw [h6]; decide)]
      rw [setPart_apart (o := 260) (a := 2 * 52) (b := 2 * 52 + 52) (by rw [h5, s4]; decide) (by rw [s4]; decide) (by rw [h5]; decide)]
      rw [setPart_apart (o := 208) (a := 2 * 52) (b := 2 * 52 + 52) (by rw [h4, s3]; decide) (by rw [s3]; decide) (by rw [h4]; decide)]
      rw [setPart_apart (o := 156) (a := 2 * 52) (b := 2 * 52 + 52) (by rw [h3, s2]; decide) (by rw [s2]; decide) (by rw [h3]; decide)]
      exact setPart_self (by rw [h2]) (by rw [h2, s1]; decide)
    | 3, hX =>
      obtain rfl : A3 = X := by simpa using hX
      rw [setPart_apart (o := 364) (a := 3 * 52) (b := 3 * 52 + 52) (by rw [h7, s6]; decide) (by rw [s6]; decide) (by rw [h7]; decide)]
      rw [setPart_apart (o := 312) (a := 3 * 52) (b := 3 * 52 + 52) (by rw [h6, s5]; decide) (by rw [s5]; decide) (by rw [h6]; decide)]
      rw [setPart_apart (o := 260) (a := 3 * 52) (b := 3 * 52 + 52) (by rw [h5, s4]; decide) (by rw [s4]; decide) (by rw [h5]; decide)]
      rw [setPart_apart (o := 208) (a := 3 * 52) (b := 3 * 52 + 52) (by rw [h4, s3]; decide) (by rw [s3]; decide) (by rw [h4]; decide)]
      exact setPart_self (by rw [h3]) (by rw [h3, s2]; decide)
    | 4, hX =>
      obtain rfl : A4 = X := by simpa using hX
      rw [setPart_apart (o := 364) (a := 4 * 52) (b := 4 * 52 + 52) (by rw [h7, s6]; decide) (by rw [s6]; decide) (by rw [h7]; decide)]
      rw [setPart_apart (o := 312) (a := 4 * 52) (b := 4 * 52 + 52) (by rw [h6, s5]; decide) (by rw [s5]; decide) (by rw [h6]; decide)]
      rw [setPart_apart (o := 260) (a := 4 * 52) (b := 4 * 52 + 52) (by rw [h5, s4]; decide) (by rw [s4]; decide) (by rw [h5]; decide)]
      exact setPart_self (by rw [h4]) (by rw [h4, s3]; decide)
    | 5, hX =>
      obtain rfl : A5 = X := by simpa using hX
      rw [setPart_apart (o := 364) (a := 5 * 52) (b := 5 * 52 + 52) (by rw [h7, s6]; decide) (by rw [s6]; decide) (by rw [h7]; decide)]
      rw [setPart_apart (o := 312) (a := 5 * 52) (b := 5 * 52 + 52) (by rw [h6, s5]; decide) (by rw [s5]; decide) (by rw [h6]; decide)]
      exact setPart_self (by rw [h5]) (by rw [h5, s4]; decide)
    | 6, hX =>
      obtain rfl : A6 = X := by simpa using hX
      rw [setPart_apart (o := 364) (a := 6 * 52) (b := 6 * 52 + 52) (by rw [h7, s6]; decide) (by rw [s6]; decide) (by rw [h7]; decide)]
      exact setPart_self (by rw [h6]) (by rw [h6, s5]; decide)
    | 7, hX =>
      obtain rfl : A7 = X := by simpa using hX
      exact setPart_self (by rw [h7]) (by rw [h7, s6]; decide)
    | k + 8, hX => simp at hX
theorem all_c {w : World} {M : Array Value} {V : Nat → List ValN} (R : RepA w M V) : ∃ L, (∀ w : World, (Instr.buildSlice 72 8 #[(0, .agg (setPart zM 11 (M.extract 11 20))), (1, .agg (setPart zM 20 (M.extract 20 25))), (2, .agg (setPart zM 25 (M.extract 25 30))), (3, .agg (setPart zM 30 (M.extract 30 41))), (4, .agg (setPart zM 41 (M.extract 41 43))), (5, .agg (setPart zM 43 (M.extract 43 47))), (6, .agg (setPart zM 47 (M.extract 47 50))), (7, .agg (setPart zM 50 (M.extract 50 52)))]).run Tryz.prog w = .ok (.slice (some ⟨w.heap.size, 0, none⟩) 8 8) (w.alloc (.cells L 46))) ∧ L.size = 416 ∧
    ∀ k, k < 8 → ∀ w2, RepA w2 M V → RepA w2 (L.extract (k * 52) (k * 52 + 52)) (fun j => if j = k then V k else zV j) := by
  have s0 : (setPart zM 11 (M.extract 11 20)).size = 52 := (setPart_size (by rw [R.r0.size]; decide)).trans zM_size
  have s1 : (setPart zM 20 (M.extract 20 25)).size = 52 := (setPart_size (by rw [R.r1.size]; decide)).trans zM_size
  have s2 : (setPart zM 25 (M.extract 25 30)).size = 52 := (setPart_size (by rw [R.r2.size]; decide)).trans zM_size
  have s3 : (setPart zM 30 (M.extract 30 41)).size = 52 := (setPart_size (by rw [R.r3.size]; decide)).trans zM_size
  have s4 : (setPart zM 41 (M.extract 41 43)).size = 52 := (setPart_size (by rw [R.r4.size]; decide)).trans zM_size
  have s5 : (setPart zM 43 (M.extract 43 47)).size = 52 := (setPart_size (by rw [R.r5.size]; decide)).trans zM_size
  have s6 : (setPart zM 47 (M.extract 47 50)).size = 52 := (setPart_size (by rw [R.r6.size]; decide)).trans zM_size
  have s7 : (setPart zM 50 (M.extract 50 52)).size = 52 := (setPart_size (by rw [R.r7.size]; decide)).trans zM_size
  obtain ⟨L, hL, hs, hk⟩ := build8 s0 s1 s2 s3 s4 s5 s6 s7
  refine ⟨L, hL, hs, fun k k8 w2 R2 => ?_⟩
  match k, k8 with
  | 0, _ => rw [hk 0 _ rfl]; exact setNode R2.r0
  | 1, _ => rw [hk 1 _ rfl]; exact setField R2.r1
  | 2, _ => rw [hk 2 _ rfl]; exact setTable R2.r2
  | 3, _ => rw [hk 3 _ rfl]; exact setEntry R2.r3
  | 4, _ => rw [hk 4 _ rfl]; exact setBlock R2.r4
  | 5, _ => rw [hk 5 _ rfl]; exact setGroup R2.r5
  | 6, _ => rw [hk 6 _ rfl]; exact setMeter R2.r6
  | 7, _ => rw [hk 7 _ rfl]; exact setRegs R2.r7
  | k + 8, h => omega
theorem wpList_buildSlice {P : Program} {ops : Array Oper} {rest : List Oper} {op : Oper} {a : Act} {w w' : World} {Q : Exit → Act → World → Prop} (hgd : op.guard = none) (t : TypeId) (n : Nat) (parts : Array (Nat × Operand)) (hop : op.op = .buildSlice t n parts)
    {ps : Array (Nat × Value)} (hps : (parts.map fun (i, x) => (i, a.eval x)) = ps) {v : Value} (hrun : (Instr.buildSlice t n ps).run P w = .ok v w')
    (h : wpList P ops Q rest (a.put op.dst v) w') : wpList P ops Q (op :: rest) a w := by
  subst hps
  refine wpList_plain hgd fun _ hK => ?_
  have hh := hK _ _ h
  unfold Oper.wp execOp
  simp only [hop, Sem.run_bind, hrun, Result.andThen_ok, Sem.run_pure]
  exact hh
theorem wp_build {P : Program} {op : Oper} {a : Act} {w : World} {K : Act → World → Prop} {Q : Exit → Act → World → Prop} (t : TypeId) (parts : Array (Nat × Operand)) (hop : op.op = .build t parts)
    {ps : Array (Nat × Value)} (hps : (parts.map fun (i, x) => (i, a.eval x)) = ps) {cells : Array Value} (hrun : (Instr.build t ps).run P w = .ok (.agg cells) w)
    (h : K (a.put op.dst (.agg cells)) w) : op.wp P a w K Q := by
  subst hps
  unfold Oper.wp execOp
  simp only [hop, Sem.run_bind, hrun, Result.andThen_ok, Sem.run_pure]
  exact h
theorem RepA.puts {w : World} {M : Array Value} {V : Nat → List ValN} (h : RepA w M V) (k : Nat) (hk : k < 8) {b : Bool} (hb : b = true ↔ okG (csKind k) (V k)) {T : ByteArray} {r : Nat} (hr : PutG (csKind k) (V k) T r) :
    Calls Tryz.prog 12 #[.agg M, .int .i64 (k : Int)] w fun e w' => e = .returned (.tuple #[.bool b, .string T, .int .i64 (r : Int)]) ∧ Wider w w' := by
  obtain ⟨a0, a1, a2, a3, a4, a5, a6, a7, a8, a9, a10, a11, a12, a13, a14, a15, a16, a17, a18, a19, a20, a21, a22, a23, a24, a25, a26, a27, a28, a29, a30, a31, a32, a33, a34, a35, a36, a37, a38, a39, a40, a41, a42, a43, a44, a45, a46, a47, a48, a49, a50, a51, rfl, R0, R1, R2, R3, R4, R5, R6, R7⟩ := h.msg
  exact puts_c w R0 R1 R2 R3 R4 R5 R6 R7 k hk hb hr
theorem RepA.one {w : World} {M : Array Value} {V : Nat → List ValN} (h : RepA w M V) (hf : ∀ v ∈ (M.extract 0 11).toList, v.oneCell' = true) : M.all (·.oneCell') = true := by
  rw [Array.all_eq_true_iff_forall_mem]
  intro v hv
  obtain ⟨i, hi, rfl⟩ := Array.mem_iff_getElem.1 hv
  have hs := h.size
  have g : ∀ a b : Nat, (M.extract a b).all (·.oneCell') = true → a ≤ i → i < b → b ≤ 52 → M[i].oneCell' = true := fun a b h1 h2 h3 h4 => by
    rw [Array.all_eq_true_iff_forall_mem] at h1
    refine h1 _ ?_
    rw [Array.mem_iff_getElem?]
    refine ⟨i - a, ?_⟩
    rw [extract_get M a b _ (by omega), if_pos (by omega), show a + (i - a) = i by omega]
    exact Array.getElem?_eq_getElem hi
  by_cases c0 : i < 11
  · exact g 0 11 (by rw [Array.all_eq_true_iff_forall_mem]; exact fun v hv => hf v (Array.mem_toList_iff.2 hv)) (by omega) c0 (by omega)
  by_cases c1 : i < 20
  · exact g 11 20 h.r0.one (by omega) c1 (by omega)
  by_cases c2 : i < 25
  · exact g 20 25 h.r1.one (by omega) c2 (by omega)
  by_cases c3 : i < 30
  · exact g 25 30 h.r2.one (by omega) c3 (by omega)
  by_cases c4 : i < 41
  · exact g 30 41 h.r3.one (by omega) c4 (by omega)
  by_cases c5 : i < 43
  · exact g 41 43 h.r4.one (by omega) c5 (by omega)
  by_cases c6 : i < 47
  · exact g 43 47 h.r5.one (by omega) c6 (by omega)
  by_cases c7 : i < 50
  · exact g 47 50 h.r6.one (by omega) c7 (by omega)
  by_cases c8 : i < 52
  · exact g 50 52 h.r7.one (by omega) c8 (by omega)
  omega
end Go.Proofs.YtlldgmdgogkdiaaGreat
