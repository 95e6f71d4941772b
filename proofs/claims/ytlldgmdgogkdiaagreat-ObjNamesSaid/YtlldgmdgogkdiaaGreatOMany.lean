/- The helper many of layer 8's laws: objects of which all numbers are as great as can be, by a walk. -/
import Derived.Test.YtlldgmdgogkdiaaGreatOOwn
import Derived.Test.YtlldgmdgogkdiaaGreatORdL
import Derived.SizedLaws
namespace Go.Proofs.YtlldgmdgogkdiaaGreat
set_option linter.unusedVariables false
set_option maxRecDepth 20000
open Go.ChangeShapes Go.WideShapes Go.ChangeAt Go.RowKit Go.Joins
open Go.ChangeMaps (open_string shut_string)

abbrev topM : Array Value := #[.int .u8 0, .int .u32 0, .int .i64 0, .int .i64 0, .int .i64 0, .int .i64 0, .int .i64 0, .int .u64 0, .int .u64 0, .string ⟨#[]⟩, .slice none 0 0, .int .i64 2147483647, .int .i64 2147483647, .int .i64 2147483647, .int .i64 2147483647, .int .i64 2147483647, .int .i64 2147483647, .int .i64 2147483647, .slice none 0 0, .int .i64 2147483647, .int .i64 2147483647, .int .u8 255, .int .i64 2147483647, .int .i64 2147483647, .int .i64 2147483647, .int .i64 2147483647, .int .u8 255, .slice none 0 0, .int .i64 2147483647, .int .i64 2147483647, .int .i64 2147483647, .string ⟨#[48, 49, 50, 51, 52, 53, 54, 55, 56, 57, 48, 49, 50, 51, 52, 53, 54, 55, 56, 57, 48, 49, 50, 51, 52, 53, 54, 55, 56, 57, 48, 49]⟩, .string ⟨#[48, 49, 50, 51, 52, 53, 54, 55, 56, 57, 48, 49, 50, 51, 52, 53, 54, 55, 56, 57, 48, 49, 50, 51, 52, 53, 54, 55, 56, 57, 48, 49]⟩, .int .i64 2147483647, .int .i64 2147483647, .int .i64 2147483647, .slice none 0 0, .int .i64 9223372036854775807, .int .i64 9223372036854775807, .int .u64 18446744073709551615, .bool true, .int .i64 2147483647, .slice none 0 0, .int .i64 2147483647, .int .u8 255, .int .i64 2147483647, .slice none 0 0, .int .i64 2147483647, .int .i64 9223372036854775807, .int .i64 9223372036854775807, .int .i64 2147483647, .int .i64 2147483647]
theorem topM_size : topM.size = 52 := rfl
def keyM : ByteArray := ⟨#[48, 49, 50, 51, 52, 53, 54, 55, 56, 57, 48, 49, 50, 51, 52, 53, 54, 55, 56, 57, 48, 49, 50, 51, 52, 53, 54, 55, 56, 57, 48, 49]⟩
def manyV (a b c d e : Nat) : Nat → List ValN
  | 0 => [ValN.num 2147483647, ValN.num 2147483647, ValN.num 2147483647, ValN.num 2147483647, ValN.num 2147483647, ValN.num 2147483647, ValN.num 2147483647, ValN.num 2147483647, ValN.lst (List.replicate a [4294967295, 2147483647])]
  | 1 => [ValN.num 2147483647, ValN.num 255, ValN.num 2147483647, ValN.num 2147483647, ValN.num 2147483647]
  | 2 => [ValN.num 2147483647, ValN.num 255, ValN.lst (List.replicate b [2147483647]), ValN.num 2147483647, ValN.num 2147483647]
  | 3 => [ValN.num 2147483647, ValN.txt keyM, ValN.txt keyM, ValN.num 2147483647, ValN.num 2147483647, ValN.num 2147483647, ValN.lst (List.replicate c [18446744073709551615]), ValN.num 9223372036854775807, ValN.num 9223372036854775807, ValN.num 18446744073709551615, ValN.num 1]
  | 4 => [ValN.num 2147483647, ValN.lst (List.replicate d [255, 2147483647, 255, 18446744073709551615, 255, 18446744073709551615, 2147483647])]
  | 5 => [ValN.num 2147483647, ValN.num 255, ValN.num 2147483647, ValN.lst (List.replicate e [18446744073709551615, 2147483647])]
  | 6 => [ValN.num 2147483647, ValN.num 9223372036854775807, ValN.num 9223372036854775807]
  | _ => [ValN.num 2147483647, ValN.num 2147483647]
theorem set_same {M : Array Value} {j : Nat} {v : Value} (h : M[j]? = some v) : M.setIfInBounds j v = M := by
  apply Array.ext_getElem?
  intro i
  rw [Array.getElem?_setIfInBounds]
  by_cases c : j = i
  · subst c
    rw [if_pos rfl, if_pos (Array.getElem?_eq_some_iff.1 h).1, h]
  · rw [if_neg c]
theorem cellsK_more (ks : List IntKind) (k : Nat) (x : List Int) : cellsK ks (List.replicate k x) ++ List.zipWith Value.int ks x = cellsK ks (List.replicate (k + 1) x) := by
  rw [List.replicate_succ', cellsK_snoc]
theorem wfTopNode : wfK ksArm [4294967295, 2147483647] := ⟨rfl, fun i k n h1 h2 => by
  match i, h1, h2 with
  | 0, h1, h2 => simp [ksArm] at h1 h2; subst h1 h2; rfl
  | 1, h1, h2 => simp [ksArm] at h1 h2; subst h1 h2; rfl
  | i + 2, h1, h2 => simp [ksArm] at h1⟩
theorem wfTopTable : wfK ksKey [2147483647] := ⟨rfl, fun i k n h1 h2 => by
  match i, h1, h2 with
  | 0, h1, h2 => simp [ksKey] at h1 h2; subst h1 h2; rfl
  | i + 1, h1, h2 => simp [ksKey] at h1⟩
theorem wfTopEntry : wfK ksArg [18446744073709551615] := ⟨rfl, fun i k n h1 h2 => by
  match i, h1, h2 with
  | 0, h1, h2 => simp [ksArg] at h1 h2; subst h1 h2; rfl
  | i + 1, h1, h2 => simp [ksArg] at h1⟩
theorem wfTopBlock : wfK ksInstr [255, 2147483647, 255, 18446744073709551615, 255, 18446744073709551615, 2147483647] := ⟨rfl, fun i k n h1 h2 => by
  match i, h1, h2 with
  | 0, h1, h2 => simp [ksInstr] at h1 h2; subst h1 h2; rfl
  | 1, h1, h2 => simp [ksInstr] at h1 h2; subst h1 h2; rfl
  | 2, h1, h2 => simp [ksInstr] at h1 h2; subst h1 h2; rfl
  | 3, h1, h2 => simp [ksInstr] at h1 h2; subst h1 h2; rfl
  | 4, h1, h2 => simp [ksInstr] at h1 h2; subst h1 h2; rfl
  | 5, h1, h2 => simp [ksInstr] at h1 h2; subst h1 h2; rfl
  | 6, h1, h2 => simp [ksInstr] at h1 h2; subst h1 h2; rfl
  | i + 7, h1, h2 => simp [ksInstr] at h1⟩
theorem wfTopGroup : wfK ksBucket [18446744073709551615, 2147483647] := ⟨rfl, fun i k n h1 h2 => by
  match i, h1, h2 with
  | 0, h1, h2 => simp [ksBucket] at h1 h2; subst h1 h2; rfl
  | 1, h1, h2 => simp [ksBucket] at h1 h2; subst h1 h2; rfl
  | i + 2, h1, h2 => simp [ksBucket] at h1⟩
theorem rep_five {w : World} {M : Array Value} {V : Nat → List ValN} (sM : M.size = 52) {a b c d e : Value} (h0 : RepNode w ((M.extract 11 20).setIfInBounds 7 a) (V 0)) (h1 : RepField w (M.extract 20 25) (V 1)) (h2 : RepTable w ((M.extract 25 30).setIfInBounds 2 b) (V 2)) (h3 : RepEntry w ((M.extract 30 41).setIfInBounds 6 c) (V 3)) (h4 : RepBlock w ((M.extract 41 43).setIfInBounds 1 d) (V 4)) (h5 : RepGroup w ((M.extract 43 47).setIfInBounds 3 e) (V 5)) (h6 : RepMeter w (M.extract 47 50) (V 6)) (h7 : RepRegs w (M.extract 50 52) (V 7)) :
    RepA w (((((M.setIfInBounds 18 a).setIfInBounds 27 b).setIfInBounds 36 c).setIfInBounds 42 d).setIfInBounds 46 e) V := by
  have k0 : (((((M.setIfInBounds 18 a).setIfInBounds 27 b).setIfInBounds 36 c).setIfInBounds 42 d).setIfInBounds 46 e).size = 52 := by simp [sM]
  have q0 : RepNode w ((((((M.setIfInBounds 18 a).setIfInBounds 27 b).setIfInBounds 36 c).setIfInBounds 42 d).setIfInBounds 46 e).extract 11 20) (V 0) := by
    rw [set_out e (by decide) (by simp [sM]), set_out d (by decide) (by simp [sM]), set_out c (by decide) (by simp [sM]), set_out b (by decide) (by simp [sM]), set_in a (by decide) (by decide) (by simp [sM])]
    exact h0
  have q1 : RepField w ((((((M.setIfInBounds 18 a).setIfInBounds 27 b).setIfInBounds 36 c).setIfInBounds 42 d).setIfInBounds 46 e).extract 20 25) (V 1) := by
    rw [set_out e (by decide) (by simp [sM]), set_out d (by decide) (by simp [sM]), set_out c (by decide) (by simp [sM]), set_out b (by decide) (by simp [sM]), set_out a (by decide) (by simp [sM])]
    exact h1
  have q2 : RepTable w ((((((M.setIfInBounds 18 a).setIfInBounds 27 b).setIfInBounds 36 c).setIfInBounds 42 d).setIfInBounds 46 e).extract 25 30) (V 2) := by
    rw [set_out e (by decide) (by simp [sM]), set_out d (by decide) (by simp [sM]), set_out c (by decide) (by simp [sM]), set_in b (by decide) (by decide) (by simp [sM]), set_out a (by decide) (by simp [sM])]
    exact h2
  have q3 : RepEntry w ((((((M.setIfInBounds 18 a).setIfInBounds 27 b).setIfInBounds 36 c).setIfInBounds 42 d).setIfInBounds 46 e).extract 30 41) (V 3) := by
    rw [set_out e (by decide) (by simp [sM]), set_out d (by decide) (by simp [sM]), set_in c (by decide) (by decide) (by simp [sM]), set_out b (by decide) (by simp [sM]), set_out a (by decide) (by simp [sM])]
    exact h3
  have q4 : RepBlock w ((((((M.setIfInBounds 18 a).setIfInBounds 27 b).setIfInBounds 36 c).setIfInBounds 42 d).setIfInBounds 46 e).extract 41 43) (V 4) := by
    rw [set_out e (by decide) (by simp [sM]), set_in d (by decide) (by decide) (by simp [sM]), set_out c (by decide) (by simp [sM]), set_out b (by decide) (by simp [sM]), set_out a (by decide) (by simp [sM])]
    exact h4
  have q5 : RepGroup w ((((((M.setIfInBounds 18 a).setIfInBounds 27 b).setIfInBounds 36 c).setIfInBounds 42 d).setIfInBounds 46 e).extract 43 47) (V 5) := by
    rw [set_in e (by decide) (by decide) (by simp [sM]), set_out d (by decide) (by simp [sM]), set_out c (by decide) (by simp [sM]), set_out b (by decide) (by simp [sM]), set_out a (by decide) (by simp [sM])]
    exact h5
  have q6 : RepMeter w ((((((M.setIfInBounds 18 a).setIfInBounds 27 b).setIfInBounds 36 c).setIfInBounds 42 d).setIfInBounds 46 e).extract 47 50) (V 6) := by
    rw [set_out e (by decide) (by simp [sM]), set_out d (by decide) (by simp [sM]), set_out c (by decide) (by simp [sM]), set_out b (by decide) (by simp [sM]), set_out a (by decide) (by simp [sM])]
    exact h6
  have q7 : RepRegs w ((((((M.setIfInBounds 18 a).setIfInBounds 27 b).setIfInBounds 36 c).setIfInBounds 42 d).setIfInBounds 46 e).extract 50 52) (V 7) := by
    rw [set_out e (by decide) (by simp [sM]), set_out d (by decide) (by simp [sM]), set_out c (by decide) (by simp [sM]), set_out b (by decide) (by simp [sM]), set_out a (by decide) (by simp [sM])]
    exact h7
  exact ⟨k0, q0, q1, q2, q3, q4, q5, q6, q7⟩
set_option maxHeartbeats 32000000 in
theorem many_c (w : World) (a b c d e : Nat) (ha : a < 1000) (hb : b < 1000) (hc : c < 1000) (hd : d < 1000) (he : e < 1000) :
    Calls Tryz.prog 18 #[.int .i64 (a : Int), .int .i64 (b : Int), .int .i64 (c : Int), .int .i64 (d : Int), .int .i64 (e : Int)] w fun r w' => ∃ M, r = .returned (.agg M) ∧ Wider w w' ∧ RepA w' M (manyV a b c d e) ∧ M.all (·.oneCell') = true := by
  obtain ⟨i0, hi0, hp0, hq0, hr0⟩ := info_parts infoArm
  obtain ⟨i1, hi1, hp1, hq1, hr1⟩ := info_parts infoKey
  obtain ⟨i2, hi2, hp2, hq2, hr2⟩ := info_parts infoArg
  obtain ⟨i3, hi3, hp3, hq3, hr3⟩ := info_parts infoInstr
  obtain ⟨i4, hi4, hp4, hq4, hr4⟩ := info_parts infoBucket
  have HZ := (Own.nil (Wider.refl w)).blk zM 46
  have HX := HZ.blk zM 46
  have hz : (w.alloc (.cells zM 46)).heap.size = w.heap.size + 1 := by simp
  rw [hz] at HX
  have hv := HX.head
  obtain ⟨M0, hM0⟩ : ∃ M0, topM = M0 := ⟨_, rfl⟩
  have e0 : M0[18]? = some (.slice none 0 0) := by rw [← hM0]; rfl
  have e1 : M0[27]? = some (.slice none 0 0) := by rw [← hM0]; rfl
  have e2 : M0[36]? = some (.slice none 0 0) := by rw [← hM0]; rfl
  have e3 : M0[42]? = some (.slice none 0 0) := by rw [← hM0]; rfl
  have e4 : M0[46]? = some (.slice none 0 0) := by rw [← hM0]; rfl
  have s0 : M0.size = 52 := by rw [← hM0]; rfl
  have o0 : M0.all (·.oneCell') = true := by rw [← hM0]; simp [Value.oneCell']
  go_enter Tryz.func18, Tryz.ntmps18
  go_upto_region 2 with (first
    | (with_reducible refine wpList_run_val rfl 46 #[(11, .tmp 18), (12, .tmp 19), (13, .tmp 20), (14, .tmp 21), (15, .tmp 22), (16, .tmp 23), (17, .tmp 24), (18, .tmp 25)] rfl (ps := #[(11, .agg #[.int .i64 2147483647, .int .i64 2147483647, .int .i64 2147483647, .int .i64 2147483647, .int .i64 2147483647, .int .i64 2147483647, .int .i64 2147483647, .slice none 0 0, .int .i64 2147483647]), (12, .agg #[.int .i64 2147483647, .int .u8 255, .int .i64 2147483647, .int .i64 2147483647, .int .i64 2147483647]), (13, .agg #[.int .i64 2147483647, .int .u8 255, .slice none 0 0, .int .i64 2147483647, .int .i64 2147483647]), (14, .agg #[.int .i64 2147483647, .string ⟨#[48, 49, 50, 51, 52, 53, 54, 55, 56, 57, 48, 49, 50, 51, 52, 53, 54, 55, 56, 57, 48, 49, 50, 51, 52, 53, 54, 55, 56, 57, 48, 49]⟩, .string ⟨#[48, 49, 50, 51, 52, 53, 54, 55, 56, 57, 48, 49, 50, 51, 52, 53, 54, 55, 56, 57, 48, 49, 50, 51, 52, 53, 54, 55, 56, 57, 48, 49]⟩, .int .i64 2147483647, .int .i64 2147483647, .int .i64 2147483647, .slice none 0 0, .int .i64 9223372036854775807, .int .i64 9223372036854775807, .int .u64 18446744073709551615, .bool true]), (15, .agg #[.int .i64 2147483647, .slice none 0 0]), (16, .agg #[.int .i64 2147483647, .int .u8 255, .int .i64 2147483647, .slice none 0 0]), (17, .agg #[.int .i64 2147483647, .int .i64 9223372036854775807, .int .i64 9223372036854775807]), (18, .agg #[.int .i64 2147483647, .int .i64 2147483647])]) (by kernel_rfl) (run_build _ _ _ M0 (by rw [← hM0]; kernel_rfl)) ?_)
    | (with_reducible refine wpList_store_row rfl 46 (.tmp 11) (.tmp 26) rfl (w.heap.size + 1) M0 rfl rfl 46 zM hv (by rw [s0]; kernel_rfl) (by rw [s0]; exact zM_size) o0 ?_; obtain ⟨g1, h1⟩ := setRow_facts M0 hv))
  have H := HX.turn (s := blkT (w.heap.size + 1) M0 46) g1 h1 (blk_stable _ _ _) (fun i m => ⟨.inl m, by simp only [List.mem_singleton] at m; subst m; exact (Array.getElem?_eq_some_iff.1 h1).1⟩)
  clear HZ HX hz hv g1 h1
  obtain ⟨w0, hw0⟩ : ∃ w0, ((w.alloc (.cells zM 46)).alloc (.cells zM 46)).setRow (w.heap.size + 1) M0 = w0 := ⟨_, rfl⟩
  rw [hw0] at H ⊢
  clear hw0
  have hE0 := Lib.hid (set_same e0).symm
  have HN0 := H.row (Wider.refl _) (World.ownsRow_nil _ _ 71 2)
  clear H
  go_wp2
  go_loopw [12] (fun i wr => ∃ k : Nat, k ≤ a ∧ i = .int .i64 (k : Int) ∧ ∃ (B : Option Addr) (cB : Nat) (Mk : Array Value), Mk = M0.setIfInBounds 18 (.slice B k cB) ∧ Own w wr [rowT 71 2 (.slice B k cB) k (cellsK ksArm (List.replicate k [4294967295, 2147483647])), blkT (w.heap.size + 1) Mk 46, blkT w.heap.size zM 46]) (fun i _ => a - (intOf i).toNat)
  case atStart => exact ⟨0, by omega, by simp, none, 0, M0, hE0.out, HN0⟩
  case round =>
    obtain ⟨k, hk, rfl, B, cB, Mk, hMk, H⟩ := hrel
    clear HN0
    by_cases ck : k < a
    · have j0 : (0 : Int) ≤ (k : Int) := by omega
      have j1 : (k : Int) < (a : Int) := by omega
      have ek : Mk[18]? = some (.slice B k cB) := by rw [hMk]; exact Array.getElem?_setIfInBounds_self_of_lt (by rw [s0]; decide)
      have HMk := Lib.hid hMk
      clear hMk hE0
      have X1 : Hid (k + 1 ≤ maxLen) := by show _ ≤ maxLen; unfold maxLen; omega
      have X2 : Hid ((k + 1) * 16 ≤ 140737488355328) := by show _ ≤ _; omega
      have SN : Hid (cellsK ksArm (List.replicate k [4294967295, 2147483647]) ++ (#[.int .u32 4294967295, .int .i64 2147483647] : Array Value).toList = cellsK ksArm (List.replicate (k + 1) [4294967295, 2147483647])) := cellsK_more _ _ _
      have kx := blk_cell H.second 18 ek
      have H6 := Lib.hid (H.quiet ((Wider.refl wr).alloc (.cells #[.int .u32 4294967295, .int .i64 2147483647] 71)))
      have SIDE := Lib.hid (liesL wr #[.int .u32 4294967295, .int .i64 2147483647] 71 (by simp [Value.oneCell']))
      go_wp2_with (first
        | (with_reducible refine wpList_field rfl 46 (.tmp 11) 11 rfl (w.heap.size + 1) 0 11 rfl (fieldM11 _) ?_)
        | (with_reducible refine wpList_field rfl 27 (.tmp 32) 7 rfl (w.heap.size + 1) 11 18 rfl (fieldRowNode _ _) ?_)
        | (with_reducible refine wpList_field rfl 46 (.tmp 11) 11 rfl (w.heap.size + 1) 0 11 rfl (fieldM11 _) ?_)
        | (with_reducible refine wpList_field rfl 27 (.tmp 38) 7 rfl (w.heap.size + 1) 11 18 rfl (fieldRowNode _ _) ?_)
        | (at_builtin; refine wpList_append_thing rfl (.tmp 34) (.tmp 36) 25 rfl 71 i0 (.agg #[.int .u32 0, .int .i64 0]) 2 16 Tryz.underlying25 hi0 hp0 hq0 hr0 rfl (by decide) (.slice B k cB) k (cellsK ksArm (List.replicate k [4294967295, 2147483647])) rfl H6.out (some ⟨wr.heap.size, 0, none⟩) 1 1 (#[.int .u32 4294967295, .int .i64 2147483647] : Array Value).toList rfl rfl (fun e => by cases e) (fun a e => by cases e; exact SIDE.out.1) SIDE.out.2 X1.out X2.out rfl SN.out ?_; intro B3 c3 w6 H7; have H8 := H7.swap; have kx := blk_cell H8.head 18 ek; have fx := blk_free H8.head 18))
      have H9 := (H8.store 18 (.slice B3 (k + 1) c3)).swap
      have hMn : Mk.setIfInBounds 18 (.slice B3 (k + 1) c3) = M0.setIfInBounds 18 (.slice B3 (k + 1) c3) := by rw [HMk.out, Array.setIfInBounds_setIfInBounds]
      go_roundw
      case rel => exact ⟨k + 1, by omega, by go_num, B3, c3, _, hMn, H9⟩
      case measure => simp [intOf]; omega
    · have j1 : ¬ ((k : Nat) : Int) < (a : Int) := by omega
      have hkp : k = a := by omega
      obtain ⟨k0, hk0⟩ : ∃ x, k = x := ⟨_, rfl⟩
      obtain ⟨B0, hB0⟩ : ∃ x, B = x := ⟨_, rfl⟩
      obtain ⟨c0, hc0⟩ : ∃ x, cB = x := ⟨_, rfl⟩
      obtain ⟨M1, hM1⟩ : ∃ x, Mk = x := ⟨_, rfl⟩
      rw [hk0, hB0, hc0] at H hMk
      rw [hM1] at H hMk
      have hN1 := Lib.hid hMk
      have hkq0 : k0 = a := by rw [← hk0]; exact hkp
      have s1 : M1.size = 52 := by rw [hN1.out, Array.size_setIfInBounds]; exact s0
      have o1 : M1.all (·.oneCell') = true := by rw [hN1.out]; exact set_one o0 rfl
      replace e1 : M1[27]? = some (.slice none 0 0) := by rw [hN1.out]; exact (Array.getElem?_setIfInBounds_ne (by decide)).trans e1
      replace e2 : M1[36]? = some (.slice none 0 0) := by rw [hN1.out]; exact (Array.getElem?_setIfInBounds_ne (by decide)).trans e2
      replace e3 : M1[42]? = some (.slice none 0 0) := by rw [hN1.out]; exact (Array.getElem?_setIfInBounds_ne (by decide)).trans e3
      replace e4 : M1[46]? = some (.slice none 0 0) := by rw [hN1.out]; exact (Array.getElem?_setIfInBounds_ne (by decide)).trans e4
      clear hMk ck hkp hk0 hB0 hc0 hM1 hE0
      replace H := H.swap
      have hE1 := Lib.hid (set_same e1).symm
      have HN1 := H.row (Wider.refl _) (World.ownsRow_nil _ _ 3 1)
      clear H
      go_wp2
      go_loopw [13] (fun i wr => ∃ k : Nat, k ≤ b ∧ i = .int .i64 (k : Int) ∧ ∃ (B : Option Addr) (cB : Nat) (Mk : Array Value), Mk = M1.setIfInBounds 27 (.slice B k cB) ∧ Own w wr [rowT 3 1 (.slice B k cB) k (cellsK ksKey (List.replicate k [2147483647])), blkT (w.heap.size + 1) Mk 46, rowT 71 2 (.slice B0 k0 c0) k0 (cellsK ksArm (List.replicate k0 [4294967295, 2147483647])), blkT w.heap.size zM 46]) (fun i _ => b - (intOf i).toNat)
      case atStart => exact ⟨0, by omega, by simp, none, 0, M1, hE1.out, HN1⟩
      case round =>
        obtain ⟨k, hk, rfl, B, cB, Mk, hMk, H⟩ := hrel
        clear HN1
        by_cases ck : k < b
        · have j0 : (0 : Int) ≤ (k : Int) := by omega
          have j1 : (k : Int) < (b : Int) := by omega
          have ek : Mk[27]? = some (.slice B k cB) := by rw [hMk]; exact Array.getElem?_setIfInBounds_self_of_lt (by rw [s1]; decide)
          have HMk := Lib.hid hMk
          clear hMk hE1
          have X1 : Hid (k + 1 ≤ maxLen) := by show _ ≤ maxLen; unfold maxLen; omega
          have X2 : Hid ((k + 1) * 8 ≤ 140737488355328) := by show _ ≤ _; omega
          have SN : Hid (cellsK ksKey (List.replicate k [2147483647]) ++ (#[.int .i64 2147483647] : Array Value).toList = cellsK ksKey (List.replicate (k + 1) [2147483647])) := cellsK_more _ _ _
          have kx := blk_cell H.second 27 ek
          have H6 := Lib.hid (H.quiet ((Wider.refl wr).alloc (.cells #[.int .i64 2147483647] 3)))
          have SIDE := Lib.hid (liesL wr #[.int .i64 2147483647] 3 (by simp [Value.oneCell']))
          go_wp2_with (first
            | (with_reducible refine wpList_field rfl 46 (.tmp 11) 13 rfl (w.heap.size + 1) 0 25 rfl (fieldM13 _) ?_)
            | (with_reducible refine wpList_field rfl 32 (.tmp 45) 2 rfl (w.heap.size + 1) 25 27 rfl (fieldRowTable _ _) ?_)
            | (with_reducible refine wpList_field rfl 46 (.tmp 11) 13 rfl (w.heap.size + 1) 0 25 rfl (fieldM13 _) ?_)
            | (with_reducible refine wpList_field rfl 32 (.tmp 50) 2 rfl (w.heap.size + 1) 25 27 rfl (fieldRowTable _ _) ?_)
            | (at_builtin; refine wpList_append_thing rfl (.tmp 47) (.tmp 48) 30 rfl 3 i1 (.int .i64 0) 1 8 Tryz.underlying30 hi1 hp1 hq1 hr1 rfl (by decide) (.slice B k cB) k (cellsK ksKey (List.replicate k [2147483647])) rfl H6.out (some ⟨wr.heap.size, 0, none⟩) 1 1 (#[.int .i64 2147483647] : Array Value).toList rfl rfl (fun e => by cases e) (fun a e => by cases e; exact SIDE.out.1) SIDE.out.2 X1.out X2.out rfl SN.out ?_; intro B3 c3 w6 H7; have H8 := H7.swap; have kx := blk_cell H8.head 27 ek; have fx := blk_free H8.head 27))
          have H9 := (H8.store 27 (.slice B3 (k + 1) c3)).swap
          have hMn : Mk.setIfInBounds 27 (.slice B3 (k + 1) c3) = M1.setIfInBounds 27 (.slice B3 (k + 1) c3) := by rw [HMk.out, Array.setIfInBounds_setIfInBounds]
          go_roundw
          case rel => exact ⟨k + 1, by omega, by go_num, B3, c3, _, hMn, H9⟩
          case measure => simp [intOf]; omega
        · have j1 : ¬ ((k : Nat) : Int) < (b : Int) := by omega
          have hkp : k = b := by omega
          obtain ⟨k1, hk1⟩ : ∃ x, k = x := ⟨_, rfl⟩
          obtain ⟨B1, hB1⟩ : ∃ x, B = x := ⟨_, rfl⟩
          obtain ⟨c1, hc1⟩ : ∃ x, cB = x := ⟨_, rfl⟩
          obtain ⟨M2, hM2⟩ : ∃ x, Mk = x := ⟨_, rfl⟩
          rw [hk1, hB1, hc1] at H hMk
          rw [hM2] at H hMk
          have hN2 := Lib.hid hMk
          have hkq1 : k1 = b := by rw [← hk1]; exact hkp
          have s2 : M2.size = 52 := by rw [hN2.out, Array.size_setIfInBounds]; exact s1
          have o2 : M2.all (·.oneCell') = true := by rw [hN2.out]; exact set_one o1 rfl
          replace e2 : M2[36]? = some (.slice none 0 0) := by rw [hN2.out]; exact (Array.getElem?_setIfInBounds_ne (by decide)).trans e2
          replace e3 : M2[42]? = some (.slice none 0 0) := by rw [hN2.out]; exact (Array.getElem?_setIfInBounds_ne (by decide)).trans e3
          replace e4 : M2[46]? = some (.slice none 0 0) := by rw [hN2.out]; exact (Array.getElem?_setIfInBounds_ne (by decide)).trans e4
          clear hMk ck hkp hk1 hB1 hc1 hM2 hE1
          replace H := H.swap
          have hE2 := Lib.hid (set_same e2).symm
          have HN2 := H.row (Wider.refl _) (World.ownsRow_nil _ _ 23 1)
          clear H
          go_wp2
          go_loopw [14] (fun i wr => ∃ k : Nat, k ≤ c ∧ i = .int .i64 (k : Int) ∧ ∃ (B : Option Addr) (cB : Nat) (Mk : Array Value), Mk = M2.setIfInBounds 36 (.slice B k cB) ∧ Own w wr [rowT 23 1 (.slice B k cB) k (cellsK ksArg (List.replicate k [18446744073709551615])), blkT (w.heap.size + 1) Mk 46, rowT 3 1 (.slice B1 k1 c1) k1 (cellsK ksKey (List.replicate k1 [2147483647])), rowT 71 2 (.slice B0 k0 c0) k0 (cellsK ksArm (List.replicate k0 [4294967295, 2147483647])), blkT w.heap.size zM 46]) (fun i _ => c - (intOf i).toNat)
          case atStart => exact ⟨0, by omega, by simp, none, 0, M2, hE2.out, HN2⟩
          case round =>
            obtain ⟨k, hk, rfl, B, cB, Mk, hMk, H⟩ := hrel
            clear HN2
            by_cases ck : k < c
            · have j0 : (0 : Int) ≤ (k : Int) := by omega
              have j1 : (k : Int) < (c : Int) := by omega
              have ek : Mk[36]? = some (.slice B k cB) := by rw [hMk]; exact Array.getElem?_setIfInBounds_self_of_lt (by rw [s2]; decide)
              have HMk := Lib.hid hMk
              clear hMk hE2
              have X1 : Hid (k + 1 ≤ maxLen) := by show _ ≤ maxLen; unfold maxLen; omega
              have X2 : Hid ((k + 1) * 8 ≤ 140737488355328) := by show _ ≤ _; omega
              have SN : Hid (cellsK ksArg (List.replicate k [18446744073709551615]) ++ (#[.int .u64 18446744073709551615] : Array Value).toList = cellsK ksArg (List.replicate (k + 1) [18446744073709551615])) := cellsK_more _ _ _
              have kx := blk_cell H.second 36 ek
              have H6 := Lib.hid (H.quiet ((Wider.refl wr).alloc (.cells #[.int .u64 18446744073709551615] 23)))
              have SIDE := Lib.hid (liesL wr #[.int .u64 18446744073709551615] 23 (by simp [Value.oneCell']))
              go_wp2_with (first
                | (with_reducible refine wpList_field rfl 46 (.tmp 11) 14 rfl (w.heap.size + 1) 0 30 rfl (fieldM14 _) ?_)
                | (with_reducible refine wpList_field rfl 34 (.tmp 57) 6 rfl (w.heap.size + 1) 30 36 rfl (fieldRowEntry _ _) ?_)
                | (with_reducible refine wpList_field rfl 46 (.tmp 11) 14 rfl (w.heap.size + 1) 0 30 rfl (fieldM14 _) ?_)
                | (with_reducible refine wpList_field rfl 34 (.tmp 62) 6 rfl (w.heap.size + 1) 30 36 rfl (fieldRowEntry _ _) ?_)
                | (at_builtin; refine wpList_append_thing rfl (.tmp 59) (.tmp 60) 24 rfl 23 i2 (.int .u64 0) 1 8 Tryz.underlying24 hi2 hp2 hq2 hr2 rfl (by decide) (.slice B k cB) k (cellsK ksArg (List.replicate k [18446744073709551615])) rfl H6.out (some ⟨wr.heap.size, 0, none⟩) 1 1 (#[.int .u64 18446744073709551615] : Array Value).toList rfl rfl (fun e => by cases e) (fun a e => by cases e; exact SIDE.out.1) SIDE.out.2 X1.out X2.out rfl SN.out ?_; intro B3 c3 w6 H7; have H8 := H7.swap; have kx := blk_cell H8.head 36 ek; have fx := blk_free H8.head 36))
              have H9 := (H8.store 36 (.slice B3 (k + 1) c3)).swap
              have hMn : Mk.setIfInBounds 36 (.slice B3 (k + 1) c3) = M2.setIfInBounds 36 (.slice B3 (k + 1) c3) := by rw [HMk.out, Array.setIfInBounds_setIfInBounds]
              go_roundw
              case rel => exact ⟨k + 1, by omega, by go_num, B3, c3, _, hMn, H9⟩
              case measure => simp [intOf]; omega
            · have j1 : ¬ ((k : Nat) : Int) < (c : Int) := by omega
              have hkp : k = c := by omega
              obtain ⟨k2, hk2⟩ : ∃ x, k = x := ⟨_, rfl⟩
              obtain ⟨B2, hB2⟩ : ∃ x, B = x := ⟨_, rfl⟩
              obtain ⟨c2, hc2⟩ : ∃ x, cB = x := ⟨_, rfl⟩
              obtain ⟨M3, hM3⟩ : ∃ x, Mk = x := ⟨_, rfl⟩
              rw [hk2, hB2, hc2] at H hMk
              rw [hM3] at H hMk
              have hN3 := Lib.hid hMk
              have hkq2 : k2 = c := by rw [← hk2]; exact hkp
              have s3 : M3.size = 52 := by rw [hN3.out, Array.size_setIfInBounds]; exact s2
              have o3 : M3.all (·.oneCell') = true := by rw [hN3.out]; exact set_one o2 rfl
              replace e3 : M3[42]? = some (.slice none 0 0) := by rw [hN3.out]; exact (Array.getElem?_setIfInBounds_ne (by decide)).trans e3
              replace e4 : M3[46]? = some (.slice none 0 0) := by rw [hN3.out]; exact (Array.getElem?_setIfInBounds_ne (by decide)).trans e4
              clear hMk ck hkp hk2 hB2 hc2 hM3 hE2
              replace H := H.swap
              have hE3 := Lib.hid (set_same e3).symm
              have HN3 := H.row (Wider.refl _) (World.ownsRow_nil _ _ 82 7)
              clear H
              go_wp2
              go_loopw [15] (fun i wr => ∃ k : Nat, k ≤ d ∧ i = .int .i64 (k : Int) ∧ ∃ (B : Option Addr) (cB : Nat) (Mk : Array Value), Mk = M3.setIfInBounds 42 (.slice B k cB) ∧ Own w wr [rowT 82 7 (.slice B k cB) k (cellsK ksInstr (List.replicate k [255, 2147483647, 255, 18446744073709551615, 255, 18446744073709551615, 2147483647])), blkT (w.heap.size + 1) Mk 46, rowT 23 1 (.slice B2 k2 c2) k2 (cellsK ksArg (List.replicate k2 [18446744073709551615])), rowT 3 1 (.slice B1 k1 c1) k1 (cellsK ksKey (List.replicate k1 [2147483647])), rowT 71 2 (.slice B0 k0 c0) k0 (cellsK ksArm (List.replicate k0 [4294967295, 2147483647])), blkT w.heap.size zM 46]) (fun i _ => d - (intOf i).toNat)
              case atStart => exact ⟨0, by omega, by simp, none, 0, M3, hE3.out, HN3⟩
              case round =>
                obtain ⟨k, hk, rfl, B, cB, Mk, hMk, H⟩ := hrel
                clear HN3
                by_cases ck : k < d
                · have j0 : (0 : Int) ≤ (k : Int) := by omega
                  have j1 : (k : Int) < (d : Int) := by omega
                  have ek : Mk[42]? = some (.slice B k cB) := by rw [hMk]; exact Array.getElem?_setIfInBounds_self_of_lt (by rw [s3]; decide)
                  have HMk := Lib.hid hMk
                  clear hMk hE3
                  have X1 : Hid (k + 1 ≤ maxLen) := by show _ ≤ maxLen; unfold maxLen; omega
                  have X2 : Hid ((k + 1) * 56 ≤ 140737488355328) := by show _ ≤ _; omega
                  have SN : Hid (cellsK ksInstr (List.replicate k [255, 2147483647, 255, 18446744073709551615, 255, 18446744073709551615, 2147483647]) ++ (#[.int .u8 255, .int .i64 2147483647, .int .u8 255, .int .u64 18446744073709551615, .int .u8 255, .int .u64 18446744073709551615, .int .i64 2147483647] : Array Value).toList = cellsK ksInstr (List.replicate (k + 1) [255, 2147483647, 255, 18446744073709551615, 255, 18446744073709551615, 2147483647])) := cellsK_more _ _ _
                  have H4 := H.blk #[.int .u8 0, .int .u64 0] 80
                  go_wp2_with (first
                    | (with_reducible refine wpList_field rfl 46 (.tmp 11) 15 rfl (w.heap.size + 1) 0 41 rfl (fieldM15 _) ?_)
                    | (with_reducible refine wpList_field rfl 37 (.tmp 70) 1 rfl (w.heap.size + 1) 41 42 rfl (fieldRowBlock _ _) ?_)
                    | (with_reducible refine wpList_field rfl 46 (.tmp 11) 15 rfl (w.heap.size + 1) 0 41 rfl (fieldM15 _) ?_)
                    | (with_reducible refine wpList_field rfl 37 (.tmp 78) 1 rfl (w.heap.size + 1) 41 42 rfl (fieldRowBlock _ _) ?_)
                    | (with_reducible refine wpList_store_row rfl 80 (.tmp 16) (.tmp 69) rfl wr.heap.size #[.int .u8 255, .int .u64 18446744073709551615] rfl rfl 80 #[.int .u8 0, .int .u64 0] H4.head (by kernel_rfl) rfl (by simp [Value.oneCell']) ?_; obtain ⟨g5, h5⟩ := setRow_facts #[.int .u8 255, .int .u64 18446744073709551615] H4.head; have H5 := H4.turn (s := blkT wr.heap.size #[.int .u8 255, .int .u64 18446744073709551615] 80) g5 h5 (blk_stable _ _ _) (fun i m => ⟨.inl m, by simp only [List.mem_singleton] at m; subst m; exact (Array.getElem?_eq_some_iff.1 h5).1⟩); obtain ⟨wB, hwB⟩ : ∃ wB, (wr.alloc (.cells #[.int .u8 0, .int .u64 0] 80)).setRow wr.heap.size #[.int .u8 255, .int .u64 18446744073709551615] = wB := ⟨_, rfl⟩; rw [hwB] at H5 ⊢; have hA := H5.head; have kx := blk_cell H5.drop.second 42 ek; have H6 := Lib.hid (H5.drop.quiet ((Wider.refl wB).alloc (.cells #[.int .u8 255, .int .i64 2147483647, .int .u8 255, .int .u64 18446744073709551615, .int .u8 255, .int .u64 18446744073709551615, .int .i64 2147483647] 82))); have SIDE := Lib.hid (liesL wB #[.int .u8 255, .int .i64 2147483647, .int .u8 255, .int .u64 18446744073709551615, .int .u8 255, .int .u64 18446744073709551615, .int .i64 2147483647] 82 (by simp [Value.oneCell'])); clear H5)
                    | (with_reducible refine wpList_load_row rfl 80 (.tmp 16) rfl wr.heap.size rfl 80 #[.int .u8 255, .int .u64 18446744073709551615] (0, 0) _ hA Tryz.underlying80 rfl (by kernel_rfl) ?_)
                    | (at_builtin; refine wpList_append_thing rfl (.tmp 72) (.tmp 76) 35 rfl 82 i3 (.agg #[.int .u8 0, .int .i64 0, .int .u8 0, .int .u64 0, .int .u8 0, .int .u64 0, .int .i64 0]) 7 56 Tryz.underlying35 hi3 hp3 hq3 hr3 rfl (by decide) (.slice B k cB) k (cellsK ksInstr (List.replicate k [255, 2147483647, 255, 18446744073709551615, 255, 18446744073709551615, 2147483647])) rfl H6.out (some ⟨wB.heap.size, 0, none⟩) 1 1 (#[.int .u8 255, .int .i64 2147483647, .int .u8 255, .int .u64 18446744073709551615, .int .u8 255, .int .u64 18446744073709551615, .int .i64 2147483647] : Array Value).toList rfl rfl (fun e => by cases e) (fun a e => by cases e; exact SIDE.out.1) SIDE.out.2 X1.out X2.out rfl SN.out ?_; intro B3 c3 w6 H7; have H8 := H7.swap; have kx := blk_cell H8.head 42 ek; have fx := blk_free H8.head 42))
                  have H9 := (H8.store 42 (.slice B3 (k + 1) c3)).swap
                  have hMn : Mk.setIfInBounds 42 (.slice B3 (k + 1) c3) = M3.setIfInBounds 42 (.slice B3 (k + 1) c3) := by rw [HMk.out, Array.setIfInBounds_setIfInBounds]
                  go_roundw
                  case rel => exact ⟨k + 1, by omega, by go_num, B3, c3, _, hMn, H9⟩
                  case measure => simp [intOf]; omega
                · have j1 : ¬ ((k : Nat) : Int) < (d : Int) := by omega
                  have hkp : k = d := by omega
                  obtain ⟨k3, hk3⟩ : ∃ x, k = x := ⟨_, rfl⟩
                  obtain ⟨B3, hB3⟩ : ∃ x, B = x := ⟨_, rfl⟩
                  obtain ⟨c3, hc3⟩ : ∃ x, cB = x := ⟨_, rfl⟩
                  obtain ⟨M4, hM4⟩ : ∃ x, Mk = x := ⟨_, rfl⟩
                  rw [hk3, hB3, hc3] at H hMk
                  rw [hM4] at H hMk
                  have hN4 := Lib.hid hMk
                  have hkq3 : k3 = d := by rw [← hk3]; exact hkp
                  have s4 : M4.size = 52 := by rw [hN4.out, Array.size_setIfInBounds]; exact s3
                  have o4 : M4.all (·.oneCell') = true := by rw [hN4.out]; exact set_one o3 rfl
                  replace e4 : M4[46]? = some (.slice none 0 0) := by rw [hN4.out]; exact (Array.getElem?_setIfInBounds_ne (by decide)).trans e4
                  clear hMk ck hkp hk3 hB3 hc3 hM4 hE3
                  replace H := H.swap
                  have hE4 := Lib.hid (set_same e4).symm
                  have HN4 := H.row (Wider.refl _) (World.ownsRow_nil _ _ 114 2)
                  clear H
                  go_wp2
                  go_loopw [17] (fun i wr => ∃ k : Nat, k ≤ e ∧ i = .int .i64 (k : Int) ∧ ∃ (B : Option Addr) (cB : Nat) (Mk : Array Value), Mk = M4.setIfInBounds 46 (.slice B k cB) ∧ Own w wr [rowT 114 2 (.slice B k cB) k (cellsK ksBucket (List.replicate k [18446744073709551615, 2147483647])), blkT (w.heap.size + 1) Mk 46, rowT 82 7 (.slice B3 k3 c3) k3 (cellsK ksInstr (List.replicate k3 [255, 2147483647, 255, 18446744073709551615, 255, 18446744073709551615, 2147483647])), rowT 23 1 (.slice B2 k2 c2) k2 (cellsK ksArg (List.replicate k2 [18446744073709551615])), rowT 3 1 (.slice B1 k1 c1) k1 (cellsK ksKey (List.replicate k1 [2147483647])), rowT 71 2 (.slice B0 k0 c0) k0 (cellsK ksArm (List.replicate k0 [4294967295, 2147483647])), blkT w.heap.size zM 46]) (fun i _ => e - (intOf i).toNat)
                  case atStart => exact ⟨0, by omega, by simp, none, 0, M4, hE4.out, HN4⟩
                  case round =>
                    obtain ⟨k, hk, rfl, B, cB, Mk, hMk, H⟩ := hrel
                    clear HN4
                    by_cases ck : k < e
                    · have j0 : (0 : Int) ≤ (k : Int) := by omega
                      have j1 : (k : Int) < (e : Int) := by omega
                      have ek : Mk[46]? = some (.slice B k cB) := by rw [hMk]; exact Array.getElem?_setIfInBounds_self_of_lt (by rw [s4]; decide)
                      have HMk := Lib.hid hMk
                      clear hMk hE4
                      have X1 : Hid (k + 1 ≤ maxLen) := by show _ ≤ maxLen; unfold maxLen; omega
                      have X2 : Hid ((k + 1) * 16 ≤ 140737488355328) := by show _ ≤ _; omega
                      have SN : Hid (cellsK ksBucket (List.replicate k [18446744073709551615, 2147483647]) ++ (#[.int .u64 18446744073709551615, .int .i64 2147483647] : Array Value).toList = cellsK ksBucket (List.replicate (k + 1) [18446744073709551615, 2147483647])) := cellsK_more _ _ _
                      have kx := blk_cell H.second 46 ek
                      have H6 := Lib.hid (H.quiet ((Wider.refl wr).alloc (.cells #[.int .u64 18446744073709551615, .int .i64 2147483647] 114)))
                      have SIDE := Lib.hid (liesL wr #[.int .u64 18446744073709551615, .int .i64 2147483647] 114 (by simp [Value.oneCell']))
                      go_wp2_with (first
                        | (with_reducible refine wpList_field rfl 46 (.tmp 11) 16 rfl (w.heap.size + 1) 0 43 rfl (fieldM16 _) ?_)
                        | (with_reducible refine wpList_field rfl 40 (.tmp 85) 3 rfl (w.heap.size + 1) 43 46 rfl (fieldRowGroup _ _) ?_)
                        | (with_reducible refine wpList_field rfl 46 (.tmp 11) 16 rfl (w.heap.size + 1) 0 43 rfl (fieldM16 _) ?_)
                        | (with_reducible refine wpList_field rfl 40 (.tmp 91) 3 rfl (w.heap.size + 1) 43 46 rfl (fieldRowGroup _ _) ?_)
                        | (at_builtin; refine wpList_append_thing rfl (.tmp 87) (.tmp 89) 38 rfl 114 i4 (.agg #[.int .u64 0, .int .i64 0]) 2 16 Tryz.underlying38 hi4 hp4 hq4 hr4 rfl (by decide) (.slice B k cB) k (cellsK ksBucket (List.replicate k [18446744073709551615, 2147483647])) rfl H6.out (some ⟨wr.heap.size, 0, none⟩) 1 1 (#[.int .u64 18446744073709551615, .int .i64 2147483647] : Array Value).toList rfl rfl (fun e => by cases e) (fun a e => by cases e; exact SIDE.out.1) SIDE.out.2 X1.out X2.out rfl SN.out ?_; intro B3 c3 w6 H7; have H8 := H7.swap; have kx := blk_cell H8.head 46 ek; have fx := blk_free H8.head 46))
                      have H9 := (H8.store 46 (.slice B3 (k + 1) c3)).swap
                      have hMn : Mk.setIfInBounds 46 (.slice B3 (k + 1) c3) = M4.setIfInBounds 46 (.slice B3 (k + 1) c3) := by rw [HMk.out, Array.setIfInBounds_setIfInBounds]
                      go_roundw
                      case rel => exact ⟨k + 1, by omega, by go_num, B3, c3, _, hMn, H9⟩
                      case measure => simp [intOf]; omega
                    · have j1 : ¬ ((k : Nat) : Int) < (e : Int) := by omega
                      have hkp : k = e := by omega
                      obtain ⟨k4, hk4⟩ : ∃ x, k = x := ⟨_, rfl⟩
                      obtain ⟨B4, hB4⟩ : ∃ x, B = x := ⟨_, rfl⟩
                      obtain ⟨c4, hc4⟩ : ∃ x, cB = x := ⟨_, rfl⟩
                      obtain ⟨M5, hM5⟩ : ∃ x, Mk = x := ⟨_, rfl⟩
                      rw [hk4, hB4, hc4] at H hMk
                      rw [hM5] at H hMk
                      have hN5 := Lib.hid hMk
                      have hkq4 : k4 = e := by rw [← hk4]; exact hkp
                      have s5 : M5.size = 52 := by rw [hN5.out, Array.size_setIfInBounds]; exact s4
                      have o5 : M5.all (·.oneCell') = true := by rw [hN5.out]; exact set_one o4 rfl
                      clear hMk ck hkp hk4 hB4 hc4 hM5 hE4
                      have H2 := H.perm (M := [blkT w.heap.size zM 46, rowT 114 2 (.slice B4 k4 c4) k4 (cellsK ksBucket (List.replicate k4 [18446744073709551615, 2147483647])), blkT (w.heap.size + 1) M5 46, rowT 82 7 (.slice B3 k3 c3) k3 (cellsK ksInstr (List.replicate k3 [255, 2147483647, 255, 18446744073709551615, 255, 18446744073709551615, 2147483647])), rowT 23 1 (.slice B2 k2 c2) k2 (cellsK ksArg (List.replicate k2 [18446744073709551615])), rowT 3 1 (.slice B1 k1 c1) k1 (cellsK ksKey (List.replicate k1 [2147483647])), rowT 71 2 (.slice B0 k0 c0) k0 (cellsK ksArm (List.replicate k0 [4294967295, 2147483647]))]) (List.perm_append_comm (l₁ := [rowT 114 2 (.slice B4 k4 c4) k4 (cellsK ksBucket (List.replicate k4 [18446744073709551615, 2147483647])), blkT (w.heap.size + 1) M5 46, rowT 82 7 (.slice B3 k3 c3) k3 (cellsK ksInstr (List.replicate k3 [255, 2147483647, 255, 18446744073709551615, 255, 18446744073709551615, 2147483647])), rowT 23 1 (.slice B2 k2 c2) k2 (cellsK ksArg (List.replicate k2 [18446744073709551615])), rowT 3 1 (.slice B1 k1 c1) k1 (cellsK ksKey (List.replicate k1 [2147483647])), rowT 71 2 (.slice B0 k0 c0) k0 (cellsK ksArm (List.replicate k0 [4294967295, 2147483647]))]) (l₂ := [blkT w.heap.size zM 46]))
                      have hx := H2.drop.second
                      have hy := H2.head
                      go_wp2_with (first
                        | (with_reducible refine wpList_load_row rfl 46 (.tmp 11) rfl (w.heap.size + 1) rfl 46 M5 (0, 0) _ hx Tryz.underlying46 rfl (by rw [s5]; kernel_rfl) ?_)
                        | (with_reducible refine wpList_store_row rfl 46 (.tmp 10) (.tmp 93) rfl w.heap.size M5 rfl rfl 46 zM hy (by rw [s5]; kernel_rfl) (by rw [s5]; exact zM_size) o5 ?_; obtain ⟨g6, h6⟩ := setRow_facts M5 hy))
                      have hl := run_loadVar_row (P := Tryz.prog) _ w.heap.size 46 46 _ (0, 0) _ h6 Tryz.underlying46 rfl (by rw [s5]; kernel_rfl)
                      have H3 := H2.turn (s := blkT w.heap.size M5 46) g6 h6 (blk_stable _ _ _) (fun i m => ⟨.inl m, by simp only [List.mem_singleton] at m; subst m; exact (Array.getElem?_eq_some_iff.1 h6).1⟩)
                      simp [bodyPost, results, Tryz.results18, asAddr, hl]
                      have R0 := rowK_own (ks := ksArm) rfl (by decide) List.length_replicate (fun x hx => by rw [List.eq_of_mem_replicate hx]; rfl) H3.drop.drop.drop.drop.drop.drop.head
                      have R1 := rowK_own (ks := ksKey) rfl (by decide) List.length_replicate (fun x hx => by rw [List.eq_of_mem_replicate hx]; rfl) H3.drop.drop.drop.drop.drop.head
                      have R2 := rowK_own (ks := ksArg) rfl (by decide) List.length_replicate (fun x hx => by rw [List.eq_of_mem_replicate hx]; rfl) H3.drop.drop.drop.drop.head
                      have R3 := rowK_own (ks := ksInstr) rfl (by decide) List.length_replicate (fun x hx => by rw [List.eq_of_mem_replicate hx]; rfl) H3.drop.drop.drop.head
                      have R4 := rowK_own (ks := ksBucket) rfl (by decide) List.length_replicate (fun x hx => by rw [List.eq_of_mem_replicate hx]; rfl) H3.drop.head
                      subst hkq0 hkq1 hkq2 hkq3 hkq4
                      have RR := rep_five (V := manyV k0 k1 k2 k3 k4) s0 (a := .slice B0 k0 c0) (b := .slice B1 k1 c1) (c := .slice B2 k2 c2) (d := .slice B3 k3 c3) (e := .slice B4 k4 c4)
                        (by rw [← hM0]; exact ⟨2147483647, 2147483647, 2147483647, 2147483647, 2147483647, 2147483647, 2147483647, 2147483647, B0, _, c0, _, rfl, rfl, rfl, rfl, rfl, rfl, rfl, rfl, rfl, rfl, R0, List.length_replicate, by omega, fun x hx => by rw [List.eq_of_mem_replicate hx]; exact wfTopNode⟩) (by rw [← hM0]; exact ⟨2147483647, 255, 2147483647, 2147483647, 2147483647, rfl, rfl, rfl, rfl, rfl, rfl, rfl⟩) (by rw [← hM0]; exact ⟨2147483647, 255, 2147483647, 2147483647, B1, _, c1, _, rfl, rfl, rfl, rfl, rfl, rfl, R1, List.length_replicate, by omega, fun x hx => by rw [List.eq_of_mem_replicate hx]; exact wfTopTable⟩) (by rw [← hM0]; exact ⟨2147483647, 2147483647, 2147483647, 2147483647, 9223372036854775807, 9223372036854775807, 18446744073709551615, keyM, keyM, true, B2, _, c2, _, rfl, rfl, rfl, by unfold maxLen; decide, by unfold maxLen; decide, rfl, rfl, rfl, rfl, rfl, rfl, R2, List.length_replicate, by omega, fun x hx => by rw [List.eq_of_mem_replicate hx]; exact wfTopEntry⟩) (by rw [← hM0]; exact ⟨2147483647, B3, _, c3, _, rfl, rfl, rfl, R3, List.length_replicate, by omega, fun x hx => by rw [List.eq_of_mem_replicate hx]; exact wfTopBlock⟩) (by rw [← hM0]; exact ⟨2147483647, 255, 2147483647, B4, _, c4, _, rfl, rfl, rfl, rfl, rfl, R4, List.length_replicate, by omega, fun x hx => by rw [List.eq_of_mem_replicate hx]; exact wfTopGroup⟩) (by rw [← hM0]; exact ⟨2147483647, 9223372036854775807, 9223372036854775807, rfl, rfl, rfl, rfl, rfl⟩) (by rw [← hM0]; exact ⟨2147483647, 2147483647, rfl, rfl, rfl, rfl⟩)
                      rw [← hN1.out, ← hN2.out, ← hN3.out, ← hN4.out, ← hN5.out] at RR
                      exact ⟨H3.wider, RR, by simpa using o5⟩
end Go.Proofs.YtlldgmdgogkdiaaGreat
