/- OCSameNode OCSameField OCSameTable -/
import Derived.Test.YtoopdhgmdjienaaGreatDoorPkW43
import Derived.Test.YtoopdhgmdjienaaGreatDoorPkW15
import Derived.WalkKit
import Derived.Lib.Hide
import Derived.Deep.DeepCutAuto
import Derived.WalkLawsBesides
import Derived.WalkSpells
import Derived.BigQuiet
import Derived.BigRegion
import Derived.Deep.RegionHeld3
namespace Go.Proofs.YtoopdhgmdjienaaGreatDoor
set_option linter.unusedVariables false
set_option maxRecDepth 20000
open Go.ChangeShapes Go.WideShapes Go.ChangeAt Go.RowKit Go.Joins
open Go.ChangeMaps (open_string shut_string)
set_option maxHeartbeats 16000000 in
theorem csameNode_c (W : World) (a0 : Int) (a1 : Int) (a2 : Int) (a3 : Int) (a4 : Int) (a5 : Int) (a6 : Int) (a8 : Int) (b0 : Int) (b1 : Int) (b2 : Int) (b3 : Int) (b4 : Int) (b5 : Int) (b6 : Int) (b8 : Int) (A B : Option Addr) (n cap m cap2 : Nat) (l l2 : List (List Value)) (hA : RowAt W A 2 l) (hB : RowAt W B 2 l2) (hn : l.length = n) (hm : l2.length = m) (hn9 : n < 1000000) (hm9 : m < 1000000) (hs : ∀ x ∈ l, (∃ v0 v1 : Int, x = [.int .u32 v0, .int .i64 v1])) (hs2 : ∀ x ∈ l2, (∃ v0 v1 : Int, x = [.int .u32 v0, .int .i64 v1])) {r : Bool} (hr : (l = l2 ∧ a0 = b0 ∧ a1 = b1 ∧ a2 = b2 ∧ a3 = b3 ∧ a4 = b4 ∧ a5 = b5 ∧ a6 = b6 ∧ a8 = b8) ↔ r = true) :
 Calls Tryz.prog 64 #[.agg #[.int .i64 a0, .int .i64 a1, .int .i64 a2, .int .i64 a3, .int .i64 a4, .int .i64 a5, .int .i64 a6, .slice A n cap, .int .i64 a8], .agg #[.int .i64 b0, .int .i64 b1, .int .i64 b2, .int .i64 b3, .int .i64 b4, .int .i64 b5, .int .i64 b6, .slice B m cap2, .int .i64 b8]] W fun e w' => e = .returned (.bool r) ∧ Wider W w' := by
 have G := ((Wider.refl W).alloc (.cells #[.int .i64 a0, .int .i64 a1, .int .i64 a2, .int .i64 a3, .int .i64 a4, .int .i64 a5, .int .i64 a6, .slice A n cap, .int .i64 a8] 32)).alloc (.cells #[.int .i64 b0, .int .i64 b1, .int .i64 b2, .int .i64 b3, .int .i64 b4, .int .i64 b5, .int .i64 b6, .slice B m cap2, .int .i64 b8] 32)
 obtain ⟨rq, hq⟩ : ∃ b : Bool, l = l2 ↔ b = true := by
  by_cases h : l = l2
  · exact ⟨true, ⟨fun _ => rfl, fun _ => h⟩⟩
  · exact ⟨false, ⟨fun e => absurd e h, fun e => by cases e⟩⟩
 have ze := fun (w : World) (g : Wider W w) => seqArm_c w A B n cap m cap2 l l2 (hA.on g) (hB.on g) hn hm hn9 hm9 hs hs2 hq
 clear hA hB hn hm hn9 hm9 hs hs2
 have hcA : ((W.alloc (.cells #[.int .i64 a0, .int .i64 a1, .int .i64 a2, .int .i64 a3, .int .i64 a4, .int .i64 a5, .int .i64 a6, .slice A n cap, .int .i64 a8] 32)).alloc (.cells #[.int .i64 b0, .int .i64 b1, .int .i64 b2, .int .i64 b3, .int .i64 b4, .int .i64 b5, .int .i64 b6, .slice B m cap2, .int .i64 b8] 32)).heap[W.heap.size]? = some (.cells #[.int .i64 a0, .int .i64 a1, .int .i64 a2, .int .i64 a3, .int .i64 a4, .int .i64 a5, .int .i64 a6, .slice A n cap, .int .i64 a8] 32 (0, 0)) := wide_blk (heap_alloc_new W _) ((Wider.refl _).alloc _)
 have hcB : ((W.alloc (.cells #[.int .i64 a0, .int .i64 a1, .int .i64 a2, .int .i64 a3, .int .i64 a4, .int .i64 a5, .int .i64 a6, .slice A n cap, .int .i64 a8] 32)).alloc (.cells #[.int .i64 b0, .int .i64 b1, .int .i64 b2, .int .i64 b3, .int .i64 b4, .int .i64 b5, .int .i64 b6, .slice B m cap2, .int .i64 b8] 32)).heap[W.heap.size + 1]? = some (.cells #[.int .i64 b0, .int .i64 b1, .int .i64 b2, .int .i64 b3, .int .i64 b4, .int .i64 b5, .int .i64 b6, .slice B m cap2, .int .i64 b8] 32 (0, 0)) := by
  have q := heap_alloc_new (W.alloc (.cells #[.int .i64 a0, .int .i64 a1, .int .i64 a2, .int .i64 a3, .int .i64 a4, .int .i64 a5, .int .i64 a6, .slice A n cap, .int .i64 a8] 32)) (.cells #[.int .i64 b0, .int .i64 b1, .int .i64 b2, .int .i64 b3, .int .i64 b4, .int .i64 b5, .int .i64 b6, .slice B m cap2, .int .i64 b8] 32)
  rw [show (W.alloc (.cells #[.int .i64 a0, .int .i64 a1, .int .i64 a2, .int .i64 a3, .int .i64 a4, .int .i64 a5, .int .i64 a6, .slice A n cap, .int .i64 a8] 32)).heap.size = W.heap.size + 1 by simp] at q
  exact q
 have ka0 := blk_cell hcA 0 (v := .int .i64 a0) rfl
 have ka1 := blk_cell hcA 1 (v := .int .i64 a1) rfl
 have ka2 := blk_cell hcA 2 (v := .int .i64 a2) rfl
 have ka3 := blk_cell hcA 3 (v := .int .i64 a3) rfl
 have ka4 := blk_cell hcA 4 (v := .int .i64 a4) rfl
 have ka5 := blk_cell hcA 5 (v := .int .i64 a5) rfl
 have ka6 := blk_cell hcA 6 (v := .int .i64 a6) rfl
 have ka7 := blk_cell hcA 7 (v := .slice A n cap) rfl
 have ka8 := blk_cell hcA 8 (v := .int .i64 a8) rfl
 have kb0 := blk_cell hcB 0 (v := .int .i64 b0) rfl
 have kb1 := blk_cell hcB 1 (v := .int .i64 b1) rfl
 have kb2 := blk_cell hcB 2 (v := .int .i64 b2) rfl
 have kb3 := blk_cell hcB 3 (v := .int .i64 b3) rfl
 have kb4 := blk_cell hcB 4 (v := .int .i64 b4) rfl
 have kb5 := blk_cell hcB 5 (v := .int .i64 b5) rfl
 have kb6 := blk_cell hcB 6 (v := .int .i64 b6) rfl
 have kb7 := blk_cell hcB 7 (v := .slice B m cap2) rfl
 have kb8 := blk_cell hcB 8 (v := .int .i64 b8) rfl
 obtain ⟨w1, hw1⟩ : ∃ w1, (W.alloc (.cells #[.int .i64 a0, .int .i64 a1, .int .i64 a2, .int .i64 a3, .int .i64 a4, .int .i64 a5, .int .i64 a6, .slice A n cap, .int .i64 a8] 32)).alloc (.cells #[.int .i64 b0, .int .i64 b1, .int .i64 b2, .int .i64 b3, .int .i64 b4, .int .i64 b5, .int .i64 b6, .slice B m cap2, .int .i64 b8] 32) = w1 := ⟨_, rfl⟩
 rw [hw1] at hcA hcB G ka0 ka1 ka2 ka3 ka4 ka5 ka6 ka7 ka8 kb0 kb1 kb2 kb3 kb4 kb5 kb6 kb7 kb8
 by_cases e0 : a0 = b0
 · subst e0
   by_cases e1 : a1 = b1
   · subst e1
     by_cases e2 : a2 = b2
     · subst e2
       by_cases e3 : a3 = b3
       · subst e3
         by_cases e4 : a4 = b4
         · subst e4
           by_cases e5 : a5 = b5
           · subst e5
             by_cases e6 : a6 = b6
             · subst e6
               by_cases e8 : a8 = b8
               · subst e8
                 cases rq with
                 | true =>
                   have hl := hq.2 rfl
                   obtain rfl : r = true := hr.1 ⟨hl, rfl, rfl, rfl, rfl, rfl, rfl, rfl, rfl⟩
                   clear hr hq hl
                   go_enter Tryz.func64, Tryz.ntmps64
                   go_upto_region 1 with (fail)
                   try rw [hw1]
                   go_wp2_with (go_at_call 105; (with_reducible refine (ze _ G).mono ?_); rintro e w2 ⟨rfl, g2⟩)
                   go_ret
                   exact ⟨rfl, G.trans g2⟩
                 | false =>
                   obtain rfl : r = false := by cases r with | false => rfl | true => (have h := hr.2 rfl; have q := hq.1 (h.1); cases q)
                   clear hr hq
                   go_enter Tryz.func64, Tryz.ntmps64
                   go_upto_region 1 with (fail)
                   try rw [hw1]
                   go_wp2_with (go_at_call 105; (with_reducible refine (ze _ G).mono ?_); rintro e w2 ⟨rfl, g2⟩)
                   go_ret
                   exact ⟨rfl, G.trans g2⟩
               · have f8 : (a8 == b8) = false := by rw [beq_eq_false_iff_ne]; exact e8
                 obtain rfl : r = false := by cases r with | false => rfl | true => (have h := hr.2 rfl; exact absurd (h.2.2.2.2.2.2.2.2) e8)
                 clear hr e8 hq
                 go_enter Tryz.func64, Tryz.ntmps64
                 go_upto_region 1 with (fail)
                 try rw [hw1]
                 go_wp2_with (go_at_call 105; (with_reducible refine (ze _ G).mono ?_); rintro e w2 ⟨rfl, g2⟩)
                 go_ret
                 exact ⟨rfl, G⟩
             · have f6 : (a6 == b6) = false := by rw [beq_eq_false_iff_ne]; exact e6
               obtain rfl : r = false := by cases r with | false => rfl | true => (have h := hr.2 rfl; exact absurd (h.2.2.2.2.2.2.2.1) e6)
               clear hr e6 hq
               go_enter Tryz.func64, Tryz.ntmps64
               go_upto_region 1 with (fail)
               try rw [hw1]
               go_wp2_with (go_at_call 105; (with_reducible refine (ze _ G).mono ?_); rintro e w2 ⟨rfl, g2⟩)
               go_ret
               exact ⟨rfl, G⟩
           · have f5 : (a5 == b5) = false := by rw [beq_eq_false_iff_ne]; exact e5
             obtain rfl : r = false := by cases r with | false => rfl | true => (have h := hr.2 rfl; exact absurd (h.2.2.2.2.2.2.1) e5)
             clear hr e5 hq
             go_enter Tryz.func64, Tryz.ntmps64
             go_upto_region 1 with (fail)
             try rw [hw1]
             go_wp2_with (go_at_call 105; (with_reducible refine (ze _ G).mono ?_); rintro e w2 ⟨rfl, g2⟩)
             go_ret
             exact ⟨rfl, G⟩
         · have f4 : (a4 == b4) = false := by rw [beq_eq_false_iff_ne]; exact e4
           obtain rfl : r = false := by cases r with | false => rfl | true => (have h := hr.2 rfl; exact absurd (h.2.2.2.2.2.1) e4)
           clear hr e4 hq
           go_enter Tryz.func64, Tryz.ntmps64
           go_upto_region 1 with (fail)
           try rw [hw1]
           go_wp2_with (go_at_call 105; (with_reducible refine (ze _ G).mono ?_); rintro e w2 ⟨rfl, g2⟩)
           go_ret
           exact ⟨rfl, G⟩
       · have f3 : (a3 == b3) = false := by rw [beq_eq_false_iff_ne]; exact e3
         obtain rfl : r = false := by cases r with | false => rfl | true => (have h := hr.2 rfl; exact absurd (h.2.2.2.2.1) e3)
         clear hr e3 hq
         go_enter Tryz.func64, Tryz.ntmps64
         go_upto_region 1 with (fail)
         try rw [hw1]
         go_wp2_with (go_at_call 105; (with_reducible refine (ze _ G).mono ?_); rintro e w2 ⟨rfl, g2⟩)
         go_ret
         exact ⟨rfl, G⟩
     · have f2 : (a2 == b2) = false := by rw [beq_eq_false_iff_ne]; exact e2
       obtain rfl : r = false := by cases r with | false => rfl | true => (have h := hr.2 rfl; exact absurd (h.2.2.2.1) e2)
       clear hr e2 hq
       go_enter Tryz.func64, Tryz.ntmps64
       go_upto_region 1 with (fail)
       try rw [hw1]
       go_wp2_with (go_at_call 105; (with_reducible refine (ze _ G).mono ?_); rintro e w2 ⟨rfl, g2⟩)
       go_ret
       exact ⟨rfl, G⟩
   · have f1 : (a1 == b1) = false := by rw [beq_eq_false_iff_ne]; exact e1
     obtain rfl : r = false := by cases r with | false => rfl | true => (have h := hr.2 rfl; exact absurd (h.2.2.1) e1)
     clear hr e1 hq
     go_enter Tryz.func64, Tryz.ntmps64
     go_upto_region 1 with (fail)
     try rw [hw1]
     go_wp2_with (go_at_call 105; (with_reducible refine (ze _ G).mono ?_); rintro e w2 ⟨rfl, g2⟩)
     go_ret
     exact ⟨rfl, G⟩
 · have f0 : (a0 == b0) = false := by rw [beq_eq_false_iff_ne]; exact e0
   obtain rfl : r = false := by cases r with | false => rfl | true => (have h := hr.2 rfl; exact absurd (h.2.1) e0)
   clear hr e0 hq
   go_enter Tryz.func64, Tryz.ntmps64
   go_upto_region 1 with (fail)
   try rw [hw1]
   go_wp2_with (go_at_call 105; (with_reducible refine (ze _ G).mono ?_); rintro e w2 ⟨rfl, g2⟩)
   go_ret
   exact ⟨rfl, G⟩
set_option maxHeartbeats 16000000 in
theorem csameField_c (W : World) (a0 : Int) (a1 : Int) (a2 : Int) (a3 : Int) (a4 : Int) (b0 : Int) (b1 : Int) (b2 : Int) (b3 : Int) (b4 : Int) {r : Bool} (hr : (a0 = b0 ∧ a1 = b1 ∧ a2 = b2 ∧ a3 = b3 ∧ a4 = b4) ↔ r = true) :
 Calls Tryz.prog 65 #[.agg #[.int .i64 a0, .int .u8 a1, .int .i64 a2, .int .i64 a3, .int .i64 a4], .agg #[.int .i64 b0, .int .u8 b1, .int .i64 b2, .int .i64 b3, .int .i64 b4]] W fun e w' => e = .returned (.bool r) ∧ Wider W w' := by
 have G := ((Wider.refl W).alloc (.cells #[.int .i64 a0, .int .u8 a1, .int .i64 a2, .int .i64 a3, .int .i64 a4] 34)).alloc (.cells #[.int .i64 b0, .int .u8 b1, .int .i64 b2, .int .i64 b3, .int .i64 b4] 34)
 have hcA : ((W.alloc (.cells #[.int .i64 a0, .int .u8 a1, .int .i64 a2, .int .i64 a3, .int .i64 a4] 34)).alloc (.cells #[.int .i64 b0, .int .u8 b1, .int .i64 b2, .int .i64 b3, .int .i64 b4] 34)).heap[W.heap.size]? = some (.cells #[.int .i64 a0, .int .u8 a1, .int .i64 a2, .int .i64 a3, .int .i64 a4] 34 (0, 0)) := wide_blk (heap_alloc_new W _) ((Wider.refl _).alloc _)
 have hcB : ((W.alloc (.cells #[.int .i64 a0, .int .u8 a1, .int .i64 a2, .int .i64 a3, .int .i64 a4] 34)).alloc (.cells #[.int .i64 b0, .int .u8 b1, .int .i64 b2, .int .i64 b3, .int .i64 b4] 34)).heap[W.heap.size + 1]? = some (.cells #[.int .i64 b0, .int .u8 b1, .int .i64 b2, .int .i64 b3, .int .i64 b4] 34 (0, 0)) := by
  have q := heap_alloc_new (W.alloc (.cells #[.int .i64 a0, .int .u8 a1, .int .i64 a2, .int .i64 a3, .int .i64 a4] 34)) (.cells #[.int .i64 b0, .int .u8 b1, .int .i64 b2, .int .i64 b3, .int .i64 b4] 34)
  rw [show (W.alloc (.cells #[.int .i64 a0, .int .u8 a1, .int .i64 a2, .int .i64 a3, .int .i64 a4] 34)).heap.size = W.heap.size + 1 by simp] at q
  exact q
 have ka0 := blk_cell hcA 0 (v := .int .i64 a0) rfl
 have ka1 := blk_cell hcA 1 (v := .int .u8 a1) rfl
 have ka2 := blk_cell hcA 2 (v := .int .i64 a2) rfl
 have ka3 := blk_cell hcA 3 (v := .int .i64 a3) rfl
 have ka4 := blk_cell hcA 4 (v := .int .i64 a4) rfl
 have kb0 := blk_cell hcB 0 (v := .int .i64 b0) rfl
 have kb1 := blk_cell hcB 1 (v := .int .u8 b1) rfl
 have kb2 := blk_cell hcB 2 (v := .int .i64 b2) rfl
 have kb3 := blk_cell hcB 3 (v := .int .i64 b3) rfl
 have kb4 := blk_cell hcB 4 (v := .int .i64 b4) rfl
 obtain ⟨w1, hw1⟩ : ∃ w1, (W.alloc (.cells #[.int .i64 a0, .int .u8 a1, .int .i64 a2, .int .i64 a3, .int .i64 a4] 34)).alloc (.cells #[.int .i64 b0, .int .u8 b1, .int .i64 b2, .int .i64 b3, .int .i64 b4] 34) = w1 := ⟨_, rfl⟩
 rw [hw1] at hcA hcB G ka0 ka1 ka2 ka3 ka4 kb0 kb1 kb2 kb3 kb4
 by_cases e0 : a0 = b0
 · subst e0
   by_cases e1 : a1 = b1
   · subst e1
     by_cases e2 : a2 = b2
     · subst e2
       by_cases e3 : a3 = b3
       · subst e3
         by_cases e4 : a4 = b4
         · subst e4
           obtain rfl : r = true := hr.1 ⟨rfl, rfl, rfl, rfl, rfl⟩
           clear hr
           go_enter Tryz.func65, Tryz.ntmps65
           go_upto_region 1 with (fail)
           try rw [hw1]
           go_wp2
           go_ret
           exact ⟨rfl, G⟩
         · have f4 : (a4 == b4) = false := by rw [beq_eq_false_iff_ne]; exact e4
           obtain rfl : r = false := by cases r with | false => rfl | true => (have h := hr.2 rfl; exact absurd (h.2.2.2.2) e4)
           clear hr e4
           go_enter Tryz.func65, Tryz.ntmps65
           go_upto_region 1 with (fail)
           try rw [hw1]
           go_wp2
           go_ret
           exact ⟨rfl, G⟩
       · have f3 : (a3 == b3) = false := by rw [beq_eq_false_iff_ne]; exact e3
         obtain rfl : r = false := by cases r with | false => rfl | true => (have h := hr.2 rfl; exact absurd (h.2.2.2.1) e3)
         clear hr e3
         go_enter Tryz.func65, Tryz.ntmps65
         go_upto_region 1 with (fail)
         try rw [hw1]
         go_wp2
         go_ret
         exact ⟨rfl, G⟩
     · have f2 : (a2 == b2) = false := by rw [beq_eq_false_iff_ne]; exact e2
       obtain rfl : r = false := by cases r with | false => rfl | true => (have h := hr.2 rfl; exact absurd (h.2.2.1) e2)
       clear hr e2
       go_enter Tryz.func65, Tryz.ntmps65
       go_upto_region 1 with (fail)
       try rw [hw1]
       go_wp2
       go_ret
       exact ⟨rfl, G⟩
   · have f1 : (a1 == b1) = false := by rw [beq_eq_false_iff_ne]; exact e1
     obtain rfl : r = false := by cases r with | false => rfl | true => (have h := hr.2 rfl; exact absurd (h.2.1) e1)
     clear hr e1
     go_enter Tryz.func65, Tryz.ntmps65
     go_upto_region 1 with (fail)
     try rw [hw1]
     go_wp2
     go_ret
     exact ⟨rfl, G⟩
 · have f0 : (a0 == b0) = false := by rw [beq_eq_false_iff_ne]; exact e0
   obtain rfl : r = false := by cases r with | false => rfl | true => (have h := hr.2 rfl; exact absurd (h.1) e0)
   clear hr e0
   go_enter Tryz.func65, Tryz.ntmps65
   go_upto_region 1 with (fail)
   try rw [hw1]
   go_wp2
   go_ret
   exact ⟨rfl, G⟩
set_option maxHeartbeats 16000000 in
theorem csameTable_c (W : World) (a0 : Int) (a1 : Int) (a3 : Int) (a4 : Int) (b0 : Int) (b1 : Int) (b3 : Int) (b4 : Int) (A B : Option Addr) (n cap m cap2 : Nat) (l l2 : List (List Value)) (hA : RowAt W A 1 l) (hB : RowAt W B 1 l2) (hn : l.length = n) (hm : l2.length = m) (hn9 : n < 1000000) (hm9 : m < 1000000) (hs : ∀ x ∈ l, (∃ v0 : Int, x = [.int .i64 v0])) (hs2 : ∀ x ∈ l2, (∃ v0 : Int, x = [.int .i64 v0])) {r : Bool} (hr : (l = l2 ∧ a0 = b0 ∧ a1 = b1 ∧ a3 = b3 ∧ a4 = b4) ↔ r = true) :
 Calls Tryz.prog 66 #[.agg #[.int .i64 a0, .int .u8 a1, .slice A n cap, .int .i64 a3, .int .i64 a4], .agg #[.int .i64 b0, .int .u8 b1, .slice B m cap2, .int .i64 b3, .int .i64 b4]] W fun e w' => e = .returned (.bool r) ∧ Wider W w' := by
 have G := ((Wider.refl W).alloc (.cells #[.int .i64 a0, .int .u8 a1, .slice A n cap, .int .i64 a3, .int .i64 a4] 37)).alloc (.cells #[.int .i64 b0, .int .u8 b1, .slice B m cap2, .int .i64 b3, .int .i64 b4] 37)
 obtain ⟨rq, hq⟩ : ∃ b : Bool, l = l2 ↔ b = true := by
  by_cases h : l = l2
  · exact ⟨true, ⟨fun _ => rfl, fun _ => h⟩⟩
  · exact ⟨false, ⟨fun e => absurd e h, fun e => by cases e⟩⟩
 have ze := fun (w : World) (g : Wider W w) => seqKey_c w A B n cap m cap2 l l2 (hA.on g) (hB.on g) hn hm hn9 hm9 hs hs2 hq
 clear hA hB hn hm hn9 hm9 hs hs2
 have hcA : ((W.alloc (.cells #[.int .i64 a0, .int .u8 a1, .slice A n cap, .int .i64 a3, .int .i64 a4] 37)).alloc (.cells #[.int .i64 b0, .int .u8 b1, .slice B m cap2, .int .i64 b3, .int .i64 b4] 37)).heap[W.heap.size]? = some (.cells #[.int .i64 a0, .int .u8 a1, .slice A n cap, .int .i64 a3, .int .i64 a4] 37 (0, 0)) := wide_blk (heap_alloc_new W _) ((Wider.refl _).alloc _)
 have hcB : ((W.alloc (.cells #[.int .i64 a0, .int .u8 a1, .slice A n cap, .int .i64 a3, .int .i64 a4] 37)).alloc (.cells #[.int .i64 b0, .int .u8 b1, .slice B m cap2, .int .i64 b3, .int .i64 b4] 37)).heap[W.heap.size + 1]? = some (.cells #[.int .i64 b0, .int .u8 b1, .slice B m cap2, .int .i64 b3, .int .i64 b4] 37 (0, 0)) := by
  have q := heap_alloc_new (W.alloc (.cells #[.int .i64 a0, .int .u8 a1, .slice A n cap, .int .i64 a3, .int .i64 a4] 37)) (.cells #[.int .i64 b0, .int .u8 b1, .slice B m cap2, .int .i64 b3, .int .i64 b4] 37)
  rw [show (W.alloc (.cells #[.int .i64 a0, .int .u8 a1, .slice A n cap, .int .i64 a3, .int .i64 a4] 37)).heap.size = W.heap.size + 1 by simp] at q
  exact q
 have ka0 := blk_cell hcA 0 (v := .int .i64 a0) rfl
 have ka1 := blk_cell hcA 1 (v := .int .u8 a1) rfl
 have ka2 := blk_cell hcA 2 (v := .slice A n cap) rfl
 have ka3 := blk_cell hcA 3 (v := .int .i64 a3) rfl
 have ka4 := blk_cell hcA 4 (v := .int .i64 a4) rfl
 have kb0 := blk_cell hcB 0 (v := .int .i64 b0) rfl
 have kb1 := blk_cell hcB 1 (v := .int .u8 b1) rfl
 have kb2 := blk_cell hcB 2 (v := .slice B m cap2) rfl
 have kb3 := blk_cell hcB 3 (v := .int .i64 b3) rfl
 have kb4 := blk_cell hcB 4 (v := .int .i64 b4) rfl
 obtain ⟨w1, hw1⟩ : ∃ w1, (W.alloc (.cells #[.int .i64 a0, .int .u8 a1, .slice A n cap, .int .i64 a3, .int .i64 a4] 37)).alloc (.cells #[.int .i64 b0, .int .u8 b1, .slice B m cap2, .int .i64 b3, .int .i64 b4] 37) = w1 := ⟨_, rfl⟩
 rw [hw1] at hcA hcB G ka0 ka1 ka2 ka3 ka4 kb0 kb1 kb2 kb3 kb4
 by_cases e0 : a0 = b0
 · subst e0
   by_cases e1 : a1 = b1
   · subst e1
     by_cases e3 : a3 = b3
     · subst e3
       by_cases e4 : a4 = b4
       · subst e4
         cases rq with
         | true =>
           have hl := hq.2 rfl
           obtain rfl : r = true := hr.1 ⟨hl, rfl, rfl, rfl, rfl⟩
           clear hr hq hl
           go_enter Tryz.func66, Tryz.ntmps66
           go_upto_region 1 with (fail)
           try rw [hw1]
           go_wp2_with (go_at_call 106; (with_reducible refine (ze _ G).mono ?_); rintro e w2 ⟨rfl, g2⟩)
           go_ret
           exact ⟨rfl, G.trans g2⟩
         | false =>
           obtain rfl : r = false := by cases r with | false => rfl | true => (have h := hr.2 rfl; have q := hq.1 (h.1); cases q)
           clear hr hq
           go_enter Tryz.func66, Tryz.ntmps66
           go_upto_region 1 with (fail)
           try rw [hw1]
           go_wp2_with (go_at_call 106; (with_reducible refine (ze _ G).mono ?_); rintro e w2 ⟨rfl, g2⟩)
           go_ret
           exact ⟨rfl, G.trans g2⟩
       · have f4 : (a4 == b4) = false := by rw [beq_eq_false_iff_ne]; exact e4
         obtain rfl : r = false := by cases r with | false => rfl | true => (have h := hr.2 rfl; exact absurd (h.2.2.2.2) e4)
         clear hr e4 hq
         go_enter Tryz.func66, Tryz.ntmps66
         go_upto_region 1 with (fail)
         try rw [hw1]
         go_wp2_with (go_at_call 106; (with_reducible refine (ze _ G).mono ?_); rintro e w2 ⟨rfl, g2⟩)
         go_ret
         exact ⟨rfl, G⟩
     · have f3 : (a3 == b3) = false := by rw [beq_eq_false_iff_ne]; exact e3
       obtain rfl : r = false := by cases r with | false => rfl | true => (have h := hr.2 rfl; exact absurd (h.2.2.2.1) e3)
       clear hr e3 hq
       go_enter Tryz.func66, Tryz.ntmps66
       go_upto_region 1 with (fail)
       try rw [hw1]
       go_wp2_with (go_at_call 106; (with_reducible refine (ze _ G).mono ?_); rintro e w2 ⟨rfl, g2⟩)
       go_ret
       exact ⟨rfl, G⟩
   · have f1 : (a1 == b1) = false := by rw [beq_eq_false_iff_ne]; exact e1
     obtain rfl : r = false := by cases r with | false => rfl | true => (have h := hr.2 rfl; exact absurd (h.2.2.1) e1)
     clear hr e1 hq
     go_enter Tryz.func66, Tryz.ntmps66
     go_upto_region 1 with (fail)
     try rw [hw1]
     go_wp2_with (go_at_call 106; (with_reducible refine (ze _ G).mono ?_); rintro e w2 ⟨rfl, g2⟩)
     go_ret
     exact ⟨rfl, G⟩
 · have f0 : (a0 == b0) = false := by rw [beq_eq_false_iff_ne]; exact e0
   obtain rfl : r = false := by cases r with | false => rfl | true => (have h := hr.2 rfl; exact absurd (h.2.1) e0)
   clear hr e0 hq
   go_enter Tryz.func66, Tryz.ntmps66
   go_upto_region 1 with (fail)
   try rw [hw1]
   go_wp2_with (go_at_call 106; (with_reducible refine (ze _ G).mono ?_); rintro e w2 ⟨rfl, g2⟩)
   go_ret
   exact ⟨rfl, G⟩
end Go.Proofs.YtoopdhgmdjienaaGreatDoor
