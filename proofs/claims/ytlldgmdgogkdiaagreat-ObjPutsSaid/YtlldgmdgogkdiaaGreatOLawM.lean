/- Plain facts that package obj's laws share. -/
import Derived.Test.YtlldgmdgogkdiaaGreatOMsgIn
import Derived.Test.YtlldgmdgogkdiaaGreatOLit
import Derived.Test.YtlldgmdgogkdiaaGreatOSameM
import Derived.Test.YtlldgmdgogkdiaaGreatOAwake
import Derived.Test.YtlldgmdgogkdiaaGreatSOpen
import Derived.Test.YtlldgmdgogkdiaaGreatRows
import Derived.SizedLaws
namespace Go.Proofs.YtlldgmdgogkdiaaGreat
set_option linter.unusedVariables false
set_option maxRecDepth 20000
open Go.ChangeShapes Go.WideShapes Go.ChangeAt Go.RowKit Go.Joins
open Go.ChangeMaps (open_string shut_string)

def oneV (k : Nat) (vs : List ValN) : Nat → List ValN := fun j => if j = k then vs else zV j
theorem oneV_self (k : Nat) (vs : List ValN) : oneV k vs k = vs := by unfold oneV; rw [if_pos rfl]
theorem oneV_zero (k : Nat) : oneV k (zeroG (csKind k)) = zV := by
  funext j
  unfold oneV
  by_cases c : j = k
  · rw [if_pos c, c]; rfl
  · rw [if_neg c]
theorem oneV_eq {k : Nat} (hk : k < 8) {a b : List ValN} : (∀ j, j < 8 → oneV k a j = oneV k b j) ↔ a = b := by
  constructor
  · intro h
    have q := h k hk
    rwa [oneV_self, oneV_self] at q
  · rintro rfl j _; rfl
theorem oneV_eq0 {k : Nat} (hk : k < 8) {a : List ValN} : (∀ j, j < 8 → oneV k a j = zV j) ↔ a = zeroG (csKind k) := by
  rw [← oneV_zero k]; exact oneV_eq hk
theorem dec0 (k : Nat) : decG (csKind k) (⟨#[]⟩ : ByteArray).data.toList = (zeroG (csKind k), 0) := by
  have q := decG_enc (csKind k) (zeroG (csKind k)) (okG_zero _) (csKind_cap k) (by have := csKind_length k; omega)
  rwa [encG_zero] at q
theorem readsA (s : ByteArray) (w : World) (hs : s.size < 1000000) (k : Nat) (hk : k < 8) {vs : List ValN} {r : Nat} (hr : decG (csKind k) s.data.toList = (vs, r)) :
    Calls Tryz.prog 16 #[.string s, .int .i64 (k : Int)] w fun e w' => ∃ M, e = .returned (.tuple #[.agg M, .int .i64 (r : Int)]) ∧ Wider w w' ∧ RepA w' M (oneV k vs) ∧ M.all (·.oneCell') = true :=
  (reads_c s w hs k hk hr).mono fun e w' ⟨M, h1, h2, h3, h4⟩ => ⟨M, h1, h2, h3.parts, h4⟩
theorem sum_caps {β : Type} : ∀ (cs : List (Cod β)), (∀ c ∈ cs, c.cap ≤ 65535) → (cs.map fun c => 3 + c.cap).sum ≤ cs.length * 65538
  | [], _ => by simp
  | c :: cs, h => by
    have q1 := sum_caps cs fun x hx => h x (.tail _ hx)
    have q2 := h c (.head _)
    simp only [List.map_cons, List.sum_cons, List.length_cons]
    omega
theorem encG_small {k : Nat} {vs : List ValN} (h : okG (csKind k) vs) : (encG (csKind k) vs).size < 900000 := by
  rw [encG_bytes (csKind k) vs h (csKind_cap k)]
  have q1 := attrsG_size (csKind k) vs 1 h
  have q2 := sum_caps (csKind k) (csKind_cap k)
  have q3 := csKind_length k
  have q4 : (mkB (bytsA (attrsG 1 (csKind k) vs))).size = (bytsA (attrsG 1 (csKind k) vs)).length := by simp [mkB, ByteArray.size]
  omega
/-- What comes of the bytes s: an object of which s is the encoding, or nothing. -/
theorem read_ways (k : Nat) (s : ByteArray) : ∃ vs c, decG (csKind k) s.data.toList = (vs, c) ∧ ((c = 0 ∧ okG (csKind k) vs ∧ encG (csKind k) vs = s) ∨ (c ≠ 0 ∧ vs = zeroG (csKind k))) := by
  obtain ⟨⟨vs, c⟩, h⟩ : ∃ p, decG (csKind k) s.data.toList = p := ⟨_, rfl⟩
  refine ⟨vs, c, h, ?_⟩
  by_cases c0 : c = 0
  · subst c0
    exact .inl ⟨rfl, decG_inv (csKind k) s vs h⟩
  · rcases decG_bad (csKind k) s.data.toList with q | ⟨q, _⟩
    · rw [h] at q; exact absurd q c0
    · rw [h] at q; exact .inr ⟨c0, q⟩
theorem put_ok {k : Nat} {vs : List ValN} (h : okG (csKind k) vs) : (true = true ↔ okG (csKind k) vs) ∧ PutG (csKind k) vs (encG (csKind k) vs) 0 := ⟨⟨fun _ => h, fun _ => rfl⟩, .inl ⟨h, rfl, rfl⟩⟩
/-- An object may be said, or it may not. -/
theorem put_ways (k : Nat) (vs : List ValN) : (okG (csKind k) vs ∧ (true = true ↔ okG (csKind k) vs) ∧ PutG (csKind k) vs (encG (csKind k) vs) 0) ∨ ((false = true ↔ okG (csKind k) vs) ∧ PutG (csKind k) vs ⟨#[]⟩ 3) := by
  by_cases h : okG (csKind k) vs
  · exact .inl ⟨h, put_ok h⟩
  · exact .inr ⟨⟨fun e => by (cases e), fun e => absurd e h⟩, .inr ⟨h, rfl, rfl⟩⟩
theorem bytes_eq {a b : ByteArray} (h : (a == b) = true) : a = b := by
  obtain ⟨x⟩ := a
  obtain ⟨y⟩ := b
  have q : (x == y) = true := h
  rw [beq_iff_eq] at q
  rw [q]
theorem bytes_ne {a b : ByteArray} (h : a ≠ b) : (a == b) = false := by
  cases e : (a == b) with
  | false => rfl
  | true => exact absurd (bytes_eq e) h
theorem conv3 (W : World) (x y z : Int) : (convert 74 9 (.slice (some ⟨W.heap.size, 0, none⟩) 3 3)).run Tryz.prog (W.alloc (.cells #[.int .u8 x, .int .u8 y, .int .u8 z] 5)) = .ok (.string (strOfNums [x, y, z])) (W.alloc (.cells #[.int .u8 x, .int .u8 y, .int .u8 z] 5)) := by
  have hg := heap_alloc_new W (.cells #[.int .u8 x, .int .u8 y, .int .u8 z] 5)
  exact run_convert_bytes_arg (P := Tryz.prog) _ 74 5 Tryz.underlying74 Tryz.underlying5 W.heap.size 0 3 3 [x, y, z] rfl (fun i hi => by
    match i, hi with
    | 0, _ => exact blk_cell hg 0 rfl
    | 1, _ => exact blk_cell hg 1 rfl
    | 2, _ => exact blk_cell hg 2 rfl
    | i + 3, h => omega) 9 Tryz.underlying9
theorem dec_more {k : Nat} {vs : List ValN} (h : okG (csKind k) vs) {T s : ByteArray} (hT : encG (csKind k) vs = T) {n x y z : Int} (n0 : 0 ≤ n) (n1 : n ≤ 255) (hs : s.size ≤ 1000) (hx : x = max 12 n) (hy : y = (s.size : Int) / 256 % 256) (hz : z = (s.size : Int) % 256) :
    decG (csKind k) (T ++ strOfNums [x, y, z] ++ s).data.toList = (zeroG (csKind k), 3) := by
  have q := decG_behind (csKind k) vs h (csKind_cap k) (by have := csKind_length k; omega) (UInt8.ofNat x.toNat) (UInt8.ofNat y.toNat) (UInt8.ofNat z.toNat) s.data.toList
    (by have := csKind_length k; rw [UInt8.toNat_ofNat']; have e : x.toNat < 256 := by omega
        rw [Nat.mod_eq_of_lt e]; omega)
    (by unfold unword; rw [UInt8.toNat_ofNat', UInt8.toNat_ofNat']; have e : s.data.toList.length = s.size := by rw [Array.length_toList]; rfl
        rw [e]; omega)
  rw [hT] at q
  rw [← q]
  congr 1
  simp [strOfNums]
end Go.Proofs.YtlldgmdgogkdiaaGreat
