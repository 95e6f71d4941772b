/- OCSameEntry OCSameBlock OCSameGroup OCSameMeter OCSameRegs -/
import Derived.Test.YtoopdhgmdjienaaGreatDoorPkW43
import Derived.Test.YtoopdhgmdjienaaGreatDoorPkW15
import Derived.WalkKit
import Derived.Lib.Hide
import Derived.Deep.DeepCutAuto
import Derived.WalkLawsBesides
import Derived.WalkSpells
import Derived.BigQuiet
import Derived.BigRegion
import Derived.Deep.RegionHeld3
namespace Go.Proofs.YtoopdhgmdjienaaGreatDoor
set_option linter.unusedVariables false
set_option maxRecDepth 20000
open Go.ChangeShapes Go.WideShapes Go.ChangeAt Go.RowKit Go.Joins
open Go.ChangeMaps (open_string shut_string)
set_option maxHeartbeats 16000000 in
theorem csameEntry_c (W : World) (a0 : Int) (a1 : ByteArray) (a2 : ByteArray) (a3 : Int) (a4 : Int) (a5 : Int) (a7 : Int) (a8 : Int) (a9 : Int) (a10 : Bool) (b0 : Int) (b1 : ByteArray) (b2 : ByteArray) (b3 : Int) (b4 : Int) (b5 : Int) (b7 : Int) (b8 : Int) (b9 : Int) (b10 : Bool) (A B : Option Addr) (n cap m cap2 : Nat) (l l2 : List (List Value)) (hA : RowAt W A 1 l) (hB : RowAt W B 1 l2) (hn : l.length = n) (hm : l2.length = m) (hn9 : n < 1000000) (hm9 : m < 1000000) (hs : ∀ x ∈ l, (∃ v0 : Int, x = [.int .u64 v0])) (hs2 : ∀ x ∈ l2, (∃ v0 : Int, x = [.int .u64 v0])) {r : Bool} (hr : (l = l2 ∧ a0 = b0 ∧ a1 = b1 ∧ a2 = b2 ∧ a3 = b3 ∧ a4 = b4 ∧ a5 = b5 ∧ a7 = b7 ∧ a8 = b8 ∧ a9 = b9 ∧ a10 = b10) ↔ r = true) :
 Calls Tryz.prog 67 #[.agg #[.int .i64 a0, .string a1, .string a2, .int .i64 a3, .int .i64 a4, .int .i64 a5, .slice A n cap, .int .i64 a7, .int .i64 a8, .int .u64 a9, .bool a10], .agg #[.int .i64 b0, .string b1, .string b2, .int .i64 b3, .int .i64 b4, .int .i64 b5, .slice B m cap2, .int .i64 b7, .int .i64 b8, .int .u64 b9, .bool b10]] W fun e w' => e = .returned (.bool r) ∧ Wider W w' := by
 have G := ((Wider.refl W).alloc (.cells #[.int .i64 a0, .string a1, .string a2, .int .i64 a3, .int .i64 a4, .int .i64 a5, .slice A n cap, .int .i64 a7, .int .i64 a8, .int .u64 a9, .bool a10] 39)).alloc (.cells #[.int .i64 b0, .string b1, .string b2, .int .i64 b3, .int .i64 b4, .int .i64 b5, .slice B m cap2, .int .i64 b7, .int .i64 b8, .int .u64 b9, .bool b10] 39)
 obtain ⟨rq, hq⟩ : ∃ b : Bool, l = l2 ↔ b = true := by
  by_cases h : l = l2
  · exact ⟨true, ⟨fun _ => rfl, fun _ => h⟩⟩
  · exact ⟨false, ⟨fun e => absurd e h, fun e => by cases e⟩⟩
 have ze := fun (w : World) (g : Wider W w) => seqArg_c w A B n cap m cap2 l l2 (hA.on g) (hB.on g) hn hm hn9 hm9 hs hs2 hq
 clear hA hB hn hm hn9 hm9 hs hs2
 have hcA : ((W.alloc (.cells #[.int .i64 a0, .string a1, .string a2, .int .i64 a3, .int .i64 a4, .int .i64 a5, .slice A n cap, .int .i64 a7, .int .i64 a8, .int .u64 a9, .bool a10] 39)).alloc (.cells #[.int .i64 b0, .string b1, .string b2, .int .i64 b3, .int .i64 b4, .int .i64 b5, .slice B m cap2, .int .i64 b7, .int .i64 b8, .int .u64 b9, .bool b10] 39)).heap[W.heap.size]? = some (.cells #[.int .i64 a0, .string a1, .string a2, .int .i64 a3, .int .i64 a4, .int .i64 a5, .slice A n cap, .int .i64 a7, .int .i64 a8, .int .u64 a9, .bool a10] 39 (0, 0)) := wide_blk (heap_alloc_new W _) ((Wider.refl _).alloc _)
 have hcB : ((W.alloc (.cells #[.int .i64 a0, .string a1, .string a2, .int .i64 a3, .int .i64 a4, .int .i64 a5, .slice A n cap, .int .i64 a7, .int .i64 a8, .int .u64 a9, .bool a10] 39)).alloc (.cells #[.int .i64 b0, .string b1, .string b2, .int .i64 b3, .int .i64 b4, .int .i64 b5, .slice B m cap2, .int .i64 b7, .int .i64 b8, .int .u64 b9, .bool b10] 39)).heap[W.heap.size + 1]? = some (.cells #[.int .i64 b0, .string b1, .string b2, .int .i64 b3, .int .i64 b4, .int .i64 b5, .slice B m cap2, .int .i64 b7, .int .i64 b8, .int .u64 b9, .bool b10] 39 (0, 0)) := by
  have q := heap_alloc_new (W.alloc (.cells #[.int .i64 a0, .string a1, .string a2, .int .i64 a3, .int .i64 a4, .int .i64 a5, .slice A n cap, .int .i64 a7, .int .i64 a8, .int .u64 a9, .bool a10] 39)) (.cells #[.int .i64 b0, .string b1, .string b2, .int .i64 b3, .int .i64 b4, .int .i64 b5, .slice B m cap2, .int .i64 b7, .int .i64 b8, .int .u64 b9, .bool b10] 39)
  rw [show (W.alloc (.cells #[.int .i64 a0, .string a1, .string a2, .int .i64 a3, .int .i64 a4, .int .i64 a5, .slice A n cap, .int .i64 a7, .int .i64 a8, .int .u64 a9, .bool a10] 39)).heap.size = W.heap.size + 1 by simp] at q
  exact q
 have ka0 := blk_cell hcA 0 (v := .int .i64 a0) rfl
 have ka1 := blk_cell hcA 1 (v := .string a1) rfl
 have ka2 := blk_cell hcA 2 (v := .string a2) rfl
 have ka3 := blk_cell hcA 3 (v := .int .i64 a3) rfl
 have ka4 := blk_cell hcA 4 (v := .int .i64 a4) rfl
 have ka5 := blk_cell hcA 5 (v := .int .i64 a5) rfl
 have ka6 := blk_cell hcA 6 (v := .slice A n cap) rfl
 have ka7 := blk_cell hcA 7 (v := .int .i64 a7) rfl
 have ka8 := blk_cell hcA 8 (v := .int .i64 a8) rfl
 have ka9 := blk_cell hcA 9 (v := .int .u64 a9) rfl
 have ka10 := blk_cell hcA 10 (v := .bool a10) rfl
 have kb0 := blk_cell hcB 0 (v := .int .i64 b0) rfl
 have kb1 := blk_cell hcB 1 (v := .string b1) rfl
 have kb2 := blk_cell hcB 2 (v := .string b2) rfl
 have kb3 := blk_cell hcB 3 (v := .int .i64 b3) rfl
 have kb4 := blk_cell hcB 4 (v := .int .i64 b4) rfl
 have kb5 := blk_cell hcB 5 (v := .int .i64 b5) rfl
 have kb6 := blk_cell hcB 6 (v := .slice B m cap2) rfl
 have kb7 := blk_cell hcB 7 (v := .int .i64 b7) rfl
 have kb8 := blk_cell hcB 8 (v := .int .i64 b8) rfl
 have kb9 := blk_cell hcB 9 (v := .int .u64 b9) rfl
 have kb10 := blk_cell hcB 10 (v := .bool b10) rfl
 obtain ⟨w1, hw1⟩ : ∃ w1, (W.alloc (.cells #[.int .i64 a0, .string a1, .string a2, .int .i64 a3, .int .i64 a4, .int .i64 a5, .slice A n cap, .int .i64 a7, .int .i64 a8, .int .u64 a9, .bool a10] 39)).alloc (.cells #[.int .i64 b0, .string b1, .string b2, .int .i64 b3, .int .i64 b4, .int .i64 b5, .slice B m cap2, .int .i64 b7, .int .i64 b8, .int .u64 b9, .bool b10] 39) = w1 := ⟨_, rfl⟩
 rw [hw1] at hcA hcB G ka0 ka1 ka2 ka3 ka4 ka5 ka6 ka7 ka8 ka9 ka10 kb0 kb1 kb2 kb3 kb4 kb5 kb6 kb7 kb8 kb9 kb10
 by_cases e0 : a0 = b0
 · subst e0
   by_cases e1 : a1 = b1
   · subst e1
     by_cases e2 : a2 = b2
     · subst e2
       by_cases e3 : a3 = b3
       · subst e3
         by_cases e4 : a4 = b4
         · subst e4
           by_cases e5 : a5 = b5
           · subst e5
             cases rq with
             | true =>
               have hl := hq.2 rfl
               by_cases e7 : a7 = b7
               · subst e7
                 by_cases e8 : a8 = b8
                 · subst e8
                   by_cases e9 : a9 = b9
                   · subst e9
                     by_cases e10 : a10 = b10
                     · subst e10
                       obtain rfl : r = true := hr.1 ⟨hl, rfl, rfl, rfl, rfl, rfl, rfl, rfl, rfl, rfl, rfl⟩
                       clear hr hq hl
                       go_enter Tryz.func67, Tryz.ntmps67
                       go_upto_region 1 with (fail)
                       try rw [hw1]
                       go_wp2_with (go_at_call 63; (with_reducible refine (ze _ G).mono ?_); rintro e w2 ⟨rfl, g2⟩; have la7 := wkeep g2 ka7; have lb7 := wkeep g2 kb7; have la8 := wkeep g2 ka8; have lb8 := wkeep g2 kb8; have la9 := wkeep g2 ka9; have lb9 := wkeep g2 kb9; have la10 := wkeep g2 ka10; have lb10 := wkeep g2 kb10)
                       go_ret
                       exact ⟨rfl, G.trans g2⟩
                     · have f10 : (a10 == b10) = false := by rw [beq_eq_false_iff_ne]; exact e10
                       obtain rfl : r = false := by cases r with | false => rfl | true => (have h := hr.2 rfl; exact absurd (h.2.2.2.2.2.2.2.2.2.2) e10)
                       clear hr e10 hq
                       go_enter Tryz.func67, Tryz.ntmps67
                       go_upto_region 1 with (fail)
                       try rw [hw1]
                       go_wp2_with (go_at_call 63; (with_reducible refine (ze _ G).mono ?_); rintro e w2 ⟨rfl, g2⟩; have la7 := wkeep g2 ka7; have lb7 := wkeep g2 kb7; have la8 := wkeep g2 ka8; have lb8 := wkeep g2 kb8; have la9 := wkeep g2 ka9; have lb9 := wkeep g2 kb9; have la10 := wkeep g2 ka10; have lb10 := wkeep g2 kb10)
                       go_ret
                       exact ⟨rfl, G.trans g2⟩
                   · have f9 : (a9 == b9) = false := by rw [beq_eq_false_iff_ne]; exact e9
                     obtain rfl : r = false := by cases r with | false => rfl | true => (have h := hr.2 rfl; exact absurd (h.2.2.2.2.2.2.2.2.2.1) e9)
                     clear hr e9 hq
                     go_enter Tryz.func67, Tryz.ntmps67
                     go_upto_region 1 with (fail)
                     try rw [hw1]
                     go_wp2_with (go_at_call 63; (with_reducible refine (ze _ G).mono ?_); rintro e w2 ⟨rfl, g2⟩; have la7 := wkeep g2 ka7; have lb7 := wkeep g2 kb7; have la8 := wkeep g2 ka8; have lb8 := wkeep g2 kb8; have la9 := wkeep g2 ka9; have lb9 := wkeep g2 kb9; have la10 := wkeep g2 ka10; have lb10 := wkeep g2 kb10)
                     go_ret
                     exact ⟨rfl, G.trans g2⟩
                 · have f8 : (a8 == b8) = false := by rw [beq_eq_false_iff_ne]; exact e8
                   obtain rfl : r = false := by cases r with | false => rfl | true => (have h := hr.2 rfl; exact absurd (h.2.2.2.2.2.2.2.2.1) e8)
                   clear hr e8 hq
                   go_enter Tryz.func67, Tryz.ntmps67
                   go_upto_region 1 with (fail)
                   try rw [hw1]
                   go_wp2_with (go_at_call 63; (with_reducible refine (ze _ G).mono ?_); rintro e w2 ⟨rfl, g2⟩; have la7 := wkeep g2 ka7; have lb7 := wkeep g2 kb7; have la8 := wkeep g2 ka8; have lb8 := wkeep g2 kb8; have la9 := wkeep g2 ka9; have lb9 := wkeep g2 kb9; have la10 := wkeep g2 ka10; have lb10 := wkeep g2 kb10)
                   go_ret
                   exact ⟨rfl, G.trans g2⟩
               · have f7 : (a7 == b7) = false := by rw [beq_eq_false_iff_ne]; exact e7
                 obtain rfl : r = false := by cases r with | false => rfl | true => (have h := hr.2 rfl; exact absurd (h.2.2.2.2.2.2.2.1) e7)
                 clear hr e7 hq
                 go_enter Tryz.func67, Tryz.ntmps67
                 go_upto_region 1 with (fail)
                 try rw [hw1]
                 go_wp2_with (go_at_call 63; (with_reducible refine (ze _ G).mono ?_); rintro e w2 ⟨rfl, g2⟩; have la7 := wkeep g2 ka7; have lb7 := wkeep g2 kb7; have la8 := wkeep g2 ka8; have lb8 := wkeep g2 kb8; have la9 := wkeep g2 ka9; have lb9 := wkeep g2 kb9; have la10 := wkeep g2 ka10; have lb10 := wkeep g2 kb10)
                 go_ret
                 exact ⟨rfl, G.trans g2⟩
             | false =>
               obtain rfl : r = false := by cases r with | false => rfl | true => (have h := hr.2 rfl; have q := hq.1 (h.1); cases q)
               clear hr hq
               go_enter Tryz.func67, Tryz.ntmps67
               go_upto_region 1 with (fail)
               try rw [hw1]
               go_wp2_with (go_at_call 63; (with_reducible refine (ze _ G).mono ?_); rintro e w2 ⟨rfl, g2⟩; have la7 := wkeep g2 ka7; have lb7 := wkeep g2 kb7; have la8 := wkeep g2 ka8; have lb8 := wkeep g2 kb8; have la9 := wkeep g2 ka9; have lb9 := wkeep g2 kb9; have la10 := wkeep g2 ka10; have lb10 := wkeep g2 kb10)
               go_ret
               exact ⟨rfl, G.trans g2⟩
           · have f5 : (a5 == b5) = false := by rw [beq_eq_false_iff_ne]; exact e5
             obtain rfl : r = false := by cases r with | false => rfl | true => (have h := hr.2 rfl; exact absurd (h.2.2.2.2.2.2.1) e5)
             clear hr e5 hq
             go_enter Tryz.func67, Tryz.ntmps67
             go_upto_region 1 with (fail)
             try rw [hw1]
             go_wp2_with (go_at_call 63; (with_reducible refine (ze _ G).mono ?_); rintro e w2 ⟨rfl, g2⟩; have la7 := wkeep g2 ka7; have lb7 := wkeep g2 kb7; have la8 := wkeep g2 ka8; have lb8 := wkeep g2 kb8; have la9 := wkeep g2 ka9; have lb9 := wkeep g2 kb9; have la10 := wkeep g2 ka10; have lb10 := wkeep g2 kb10)
             go_ret
             exact ⟨rfl, G⟩
         · have f4 : (a4 == b4) = false := by rw [beq_eq_false_iff_ne]; exact e4
           obtain rfl : r = false := by cases r with | false => rfl | true => (have h := hr.2 rfl; exact absurd (h.2.2.2.2.2.1) e4)
           clear hr e4 hq
           go_enter Tryz.func67, Tryz.ntmps67
           go_upto_region 1 with (fail)
           try rw [hw1]
           go_wp2_with (go_at_call 63; (with_reducible refine (ze _ G).mono ?_); rintro e w2 ⟨rfl, g2⟩; have la7 := wkeep g2 ka7; have lb7 := wkeep g2 kb7; have la8 := wkeep g2 ka8; have lb8 := wkeep g2 kb8; have la9 := wkeep g2 ka9; have lb9 := wkeep g2 kb9; have la10 := wkeep g2 ka10; have lb10 := wkeep g2 kb10)
           go_ret
           exact ⟨rfl, G⟩
       · have f3 : (a3 == b3) = false := by rw [beq_eq_false_iff_ne]; exact e3
         obtain rfl : r = false := by cases r with | false => rfl | true => (have h := hr.2 rfl; exact absurd (h.2.2.2.2.1) e3)
         clear hr e3 hq
         go_enter Tryz.func67, Tryz.ntmps67
         go_upto_region 1 with (fail)
         try rw [hw1]
         go_wp2_with (go_at_call 63; (with_reducible refine (ze _ G).mono ?_); rintro e w2 ⟨rfl, g2⟩; have la7 := wkeep g2 ka7; have lb7 := wkeep g2 kb7; have la8 := wkeep g2 ka8; have lb8 := wkeep g2 kb8; have la9 := wkeep g2 ka9; have lb9 := wkeep g2 kb9; have la10 := wkeep g2 ka10; have lb10 := wkeep g2 kb10)
         go_ret
         exact ⟨rfl, G⟩
     · have f2 : (a2.toList == b2.toList) = false := by
        rw [beq_eq_false_iff_ne, ByteArray.toList_eq, ByteArray.toList_eq]; intro p; exact e2 (ba_ext p)
       obtain rfl : r = false := by cases r with | false => rfl | true => (have h := hr.2 rfl; exact absurd (h.2.2.2.1) e2)
       clear hr e2 hq
       go_enter Tryz.func67, Tryz.ntmps67
       go_upto_region 1 with (fail)
       try rw [hw1]
       go_wp2_with (go_at_call 63; (with_reducible refine (ze _ G).mono ?_); rintro e w2 ⟨rfl, g2⟩; have la7 := wkeep g2 ka7; have lb7 := wkeep g2 kb7; have la8 := wkeep g2 ka8; have lb8 := wkeep g2 kb8; have la9 := wkeep g2 ka9; have lb9 := wkeep g2 kb9; have la10 := wkeep g2 ka10; have lb10 := wkeep g2 kb10)
       go_ret
       exact ⟨rfl, G⟩
   · have f1 : (a1.toList == b1.toList) = false := by
      rw [beq_eq_false_iff_ne, ByteArray.toList_eq, ByteArray.toList_eq]; intro p; exact e1 (ba_ext p)
     obtain rfl : r = false := by cases r with | false => rfl | true => (have h := hr.2 rfl; exact absurd (h.2.2.1) e1)
     clear hr e1 hq
     go_enter Tryz.func67, Tryz.ntmps67
     go_upto_region 1 with (fail)
     try rw [hw1]
     go_wp2_with (go_at_call 63; (with_reducible refine (ze _ G).mono ?_); rintro e w2 ⟨rfl, g2⟩; have la7 := wkeep g2 ka7; have lb7 := wkeep g2 kb7; have la8 := wkeep g2 ka8; have lb8 := wkeep g2 kb8; have la9 := wkeep g2 ka9; have lb9 := wkeep g2 kb9; have la10 := wkeep g2 ka10; have lb10 := wkeep g2 kb10)
     go_ret
     exact ⟨rfl, G⟩
 · have f0 : (a0 == b0) = false := by rw [beq_eq_false_iff_ne]; exact e0
   obtain rfl : r = false := by cases r with | false => rfl | true => (have h := hr.2 rfl; exact absurd (h.2.1) e0)
   clear hr e0 hq
   go_enter Tryz.func67, Tryz.ntmps67
   go_upto_region 1 with (fail)
   try rw [hw1]
   go_wp2_with (go_at_call 63; (with_reducible refine (ze _ G).mono ?_); rintro e w2 ⟨rfl, g2⟩; have la7 := wkeep g2 ka7; have lb7 := wkeep g2 kb7; have la8 := wkeep g2 ka8; have lb8 := wkeep g2 kb8; have la9 := wkeep g2 ka9; have lb9 := wkeep g2 kb9; have la10 := wkeep g2 ka10; have lb10 := wkeep g2 kb10)
   go_ret
   exact ⟨rfl, G⟩
set_option maxHeartbeats 16000000 in
theorem csameBlock_c (W : World) (a0 : Int) (b0 : Int) (A B : Option Addr) (n cap m cap2 : Nat) (l l2 : List (List Value)) (hA : RowAt W A 7 l) (hB : RowAt W B 7 l2) (hn : l.length = n) (hm : l2.length = m) (hn9 : n < 1000000) (hm9 : m < 1000000) (hs : ∀ x ∈ l, (∃ v0 v1 v2 v3 v4 v5 v6 : Int, x = [.int .u8 v0, .int .i64 v1, .int .u8 v2, .int .u64 v3, .int .u8 v4, .int .u64 v5, .int .i64 v6])) (hs2 : ∀ x ∈ l2, (∃ v0 v1 v2 v3 v4 v5 v6 : Int, x = [.int .u8 v0, .int .i64 v1, .int .u8 v2, .int .u64 v3, .int .u8 v4, .int .u64 v5, .int .i64 v6])) {r : Bool} (hr : (l = l2 ∧ a0 = b0) ↔ r = true) :
 Calls Tryz.prog 68 #[.agg #[.int .i64 a0, .slice A n cap], .agg #[.int .i64 b0, .slice B m cap2]] W fun e w' => e = .returned (.bool r) ∧ Wider W w' := by
 have G := ((Wider.refl W).alloc (.cells #[.int .i64 a0, .slice A n cap] 42)).alloc (.cells #[.int .i64 b0, .slice B m cap2] 42)
 obtain ⟨rq, hq⟩ : ∃ b : Bool, l = l2 ↔ b = true := by
  by_cases h : l = l2
  · exact ⟨true, ⟨fun _ => rfl, fun _ => h⟩⟩
  · exact ⟨false, ⟨fun e => absurd e h, fun e => by cases e⟩⟩
 have ze := fun (w : World) (g : Wider W w) => seqInstr_c w A B n cap m cap2 l l2 (hA.on g) (hB.on g) hn hm hn9 hm9 hs hs2 hq
 clear hA hB hn hm hn9 hm9 hs hs2
 have hcA : ((W.alloc (.cells #[.int .i64 a0, .slice A n cap] 42)).alloc (.cells #[.int .i64 b0, .slice B m cap2] 42)).heap[W.heap.size]? = some (.cells #[.int .i64 a0, .slice A n cap] 42 (0, 0)) := wide_blk (heap_alloc_new W _) ((Wider.refl _).alloc _)
 have hcB : ((W.alloc (.cells #[.int .i64 a0, .slice A n cap] 42)).alloc (.cells #[.int .i64 b0, .slice B m cap2] 42)).heap[W.heap.size + 1]? = some (.cells #[.int .i64 b0, .slice B m cap2] 42 (0, 0)) := by
  have q := heap_alloc_new (W.alloc (.cells #[.int .i64 a0, .slice A n cap] 42)) (.cells #[.int .i64 b0, .slice B m cap2] 42)
  rw [show (W.alloc (.cells #[.int .i64 a0, .slice A n cap] 42)).heap.size = W.heap.size + 1 by simp] at q
  exact q
 have ka0 := blk_cell hcA 0 (v := .int .i64 a0) rfl
 have ka1 := blk_cell hcA 1 (v := .slice A n cap) rfl
 have kb0 := blk_cell hcB 0 (v := .int .i64 b0) rfl
 have kb1 := blk_cell hcB 1 (v := .slice B m cap2) rfl
 obtain ⟨w1, hw1⟩ : ∃ w1, (W.alloc (.cells #[.int .i64 a0, .slice A n cap] 42)).alloc (.cells #[.int .i64 b0, .slice B m cap2] 42) = w1 := ⟨_, rfl⟩
 rw [hw1] at hcA hcB G ka0 ka1 kb0 kb1
 by_cases e0 : a0 = b0
 · subst e0
   cases rq with
   | true =>
     have hl := hq.2 rfl
     obtain rfl : r = true := hr.1 ⟨hl, rfl⟩
     clear hr hq hl
     go_enter Tryz.func68, Tryz.ntmps68
     go_upto_region 1 with (fail)
     try rw [hw1]
     go_wp2_with (go_at_call 107; (with_reducible refine (ze _ G).mono ?_); rintro e w2 ⟨rfl, g2⟩)
     go_ret
     exact ⟨rfl, G.trans g2⟩
   | false =>
     obtain rfl : r = false := by cases r with | false => rfl | true => (have h := hr.2 rfl; have q := hq.1 (h.1); cases q)
     clear hr hq
     go_enter Tryz.func68, Tryz.ntmps68
     go_upto_region 1 with (fail)
     try rw [hw1]
     go_wp2_with (go_at_call 107; (with_reducible refine (ze _ G).mono ?_); rintro e w2 ⟨rfl, g2⟩)
     go_ret
     exact ⟨rfl, G.trans g2⟩
 · have f0 : (a0 == b0) = false := by rw [beq_eq_false_iff_ne]; exact e0
   obtain rfl : r = false := by cases r with | false => rfl | true => (have h := hr.2 rfl; exact absurd (h.2) e0)
   clear hr e0 hq
   go_enter Tryz.func68, Tryz.ntmps68
   go_upto_region 1 with (fail)
   try rw [hw1]
   go_wp2_with (go_at_call 107; (with_reducible refine (ze _ G).mono ?_); rintro e w2 ⟨rfl, g2⟩)
   go_ret
   exact ⟨rfl, G⟩
set_option maxHeartbeats 16000000 in
theorem csameGroup_c (W : World) (a0 : Int) (a1 : Int) (a2 : Int) (b0 : Int) (b1 : Int) (b2 : Int) (A B : Option Addr) (n cap m cap2 : Nat) (l l2 : List (List Value)) (hA : RowAt W A 2 l) (hB : RowAt W B 2 l2) (hn : l.length = n) (hm : l2.length = m) (hn9 : n < 1000000) (hm9 : m < 1000000) (hs : ∀ x ∈ l, (∃ v0 v1 : Int, x = [.int .u64 v0, .int .i64 v1])) (hs2 : ∀ x ∈ l2, (∃ v0 v1 : Int, x = [.int .u64 v0, .int .i64 v1])) {r : Bool} (hr : (l = l2 ∧ a0 = b0 ∧ a1 = b1 ∧ a2 = b2) ↔ r = true) :
 Calls Tryz.prog 69 #[.agg #[.int .i64 a0, .int .u8 a1, .int .i64 a2, .slice A n cap], .agg #[.int .i64 b0, .int .u8 b1, .int .i64 b2, .slice B m cap2]] W fun e w' => e = .returned (.bool r) ∧ Wider W w' := by
 have G := ((Wider.refl W).alloc (.cells #[.int .i64 a0, .int .u8 a1, .int .i64 a2, .slice A n cap] 45)).alloc (.cells #[.int .i64 b0, .int .u8 b1, .int .i64 b2, .slice B m cap2] 45)
 obtain ⟨rq, hq⟩ : ∃ b : Bool, l = l2 ↔ b = true := by
  by_cases h : l = l2
  · exact ⟨true, ⟨fun _ => rfl, fun _ => h⟩⟩
  · exact ⟨false, ⟨fun e => absurd e h, fun e => by cases e⟩⟩
 have ze := fun (w : World) (g : Wider W w) => seqBucket_c w A B n cap m cap2 l l2 (hA.on g) (hB.on g) hn hm hn9 hm9 hs hs2 hq
 clear hA hB hn hm hn9 hm9 hs hs2
 have hcA : ((W.alloc (.cells #[.int .i64 a0, .int .u8 a1, .int .i64 a2, .slice A n cap] 45)).alloc (.cells #[.int .i64 b0, .int .u8 b1, .int .i64 b2, .slice B m cap2] 45)).heap[W.heap.size]? = some (.cells #[.int .i64 a0, .int .u8 a1, .int .i64 a2, .slice A n cap] 45 (0, 0)) := wide_blk (heap_alloc_new W _) ((Wider.refl _).alloc _)
 have hcB : ((W.alloc (.cells #[.int .i64 a0, .int .u8 a1, .int .i64 a2, .slice A n cap] 45)).alloc (.cells #[.int .i64 b0, .int .u8 b1, .int .i64 b2, .slice B m cap2] 45)).heap[W.heap.size + 1]? = some (.cells #[.int .i64 b0, .int .u8 b1, .int .i64 b2, .slice B m cap2] 45 (0, 0)) := by
  have q := heap_alloc_new (W.alloc (.cells #[.int .i64 a0, .int .u8 a1, .int .i64 a2, .slice A n cap] 45)) (.cells #[.int .i64 b0, .int .u8 b1, .int .i64 b2, .slice B m cap2] 45)
  rw [show (W.alloc (.cells #[.int .i64 a0, .int .u8 a1, .int .i64 a2, .slice A n cap] 45)).heap.size = W.heap.size + 1 by simp] at q
  exact q
 have ka0 := blk_cell hcA 0 (v := .int .i64 a0) rfl
 have ka1 := blk_cell hcA 1 (v := .int .u8 a1) rfl
 have ka2 := blk_cell hcA 2 (v := .int .i64 a2) rfl
 have ka3 := blk_cell hcA 3 (v := .slice A n cap) rfl
 have kb0 := blk_cell hcB 0 (v := .int .i64 b0) rfl
 have kb1 := blk_cell hcB 1 (v := .int .u8 b1) rfl
 have kb2 := blk_cell hcB 2 (v := .int .i64 b2) rfl
 have kb3 := blk_cell hcB 3 (v := .slice B m cap2) rfl
 obtain ⟨w1, hw1⟩ : ∃ w1, (W.alloc (.cells #[.int .i64 a0, .int .u8 a1, .int .i64 a2, .slice A n cap] 45)).alloc (.cells #[.int .i64 b0, .int .u8 b1, .int .i64 b2, .slice B m cap2] 45) = w1 := ⟨_, rfl⟩
 rw [hw1] at hcA hcB G ka0 ka1 ka2 ka3 kb0 kb1 kb2 kb3
 by_cases e0 : a0 = b0
 · subst e0
   by_cases e1 : a1 = b1
   · subst e1
     by_cases e2 : a2 = b2
     · subst e2
       cases rq with
       | true =>
         have hl := hq.2 rfl
         obtain rfl : r = true := hr.1 ⟨hl, rfl, rfl, rfl⟩
         clear hr hq hl
         go_enter Tryz.func69, Tryz.ntmps69
         go_upto_region 1 with (fail)
         try rw [hw1]
         go_wp2_with (go_at_call 108; (with_reducible refine (ze _ G).mono ?_); rintro e w2 ⟨rfl, g2⟩)
         go_ret
         exact ⟨rfl, G.trans g2⟩
       | false =>
         obtain rfl : r = false := by cases r with | false => rfl | true => (have h := hr.2 rfl; have q := hq.1 (h.1); cases q)
         clear hr hq
         go_enter Tryz.func69, Tryz.ntmps69
         go_upto_region 1 with (fail)
         try rw [hw1]
         go_wp2_with (go_at_call 108; (with_reducible refine (ze _ G).mono ?_); rintro e w2 ⟨rfl, g2⟩)
         go_ret
         exact ⟨rfl, G.trans g2⟩
     · have f2 : (a2 == b2) = false := by rw [beq_eq_false_iff_ne]; exact e2
       obtain rfl : r = false := by cases r with | false => rfl | true => (have h := hr.2 rfl; exact absurd (h.2.2.2) e2)
       clear hr e2 hq
       go_enter Tryz.func69, Tryz.ntmps69
       go_upto_region 1 with (fail)
       try rw [hw1]
       go_wp2_with (go_at_call 108; (with_reducible refine (ze _ G).mono ?_); rintro e w2 ⟨rfl, g2⟩)
       go_ret
       exact ⟨rfl, G⟩
   · have f1 : (a1 == b1) = false := by rw [beq_eq_false_iff_ne]; exact e1
     obtain rfl : r = false := by cases r with | false => rfl | true => (have h := hr.2 rfl; exact absurd (h.2.2.1) e1)
     clear hr e1 hq
     go_enter Tryz.func69, Tryz.ntmps69
     go_upto_region 1 with (fail)
     try rw [hw1]
     go_wp2_with (go_at_call 108; (with_reducible refine (ze _ G).mono ?_); rintro e w2 ⟨rfl, g2⟩)
     go_ret
     exact ⟨rfl, G⟩
 · have f0 : (a0 == b0) = false := by rw [beq_eq_false_iff_ne]; exact e0
   obtain rfl : r = false := by cases r with | false => rfl | true => (have h := hr.2 rfl; exact absurd (h.2.1) e0)
   clear hr e0 hq
   go_enter Tryz.func69, Tryz.ntmps69
   go_upto_region 1 with (fail)
   try rw [hw1]
   go_wp2_with (go_at_call 108; (with_reducible refine (ze _ G).mono ?_); rintro e w2 ⟨rfl, g2⟩)
   go_ret
   exact ⟨rfl, G⟩
set_option maxHeartbeats 16000000 in
theorem csameMeter_c (W : World) (a0 : Int) (a1 : Int) (a2 : Int) (b0 : Int) (b1 : Int) (b2 : Int) {r : Bool} (hr : (a0 = b0 ∧ a1 = b1 ∧ a2 = b2) ↔ r = true) :
 Calls Tryz.prog 70 #[.agg #[.int .i64 a0, .int .i64 a1, .int .i64 a2], .agg #[.int .i64 b0, .int .i64 b1, .int .i64 b2]] W fun e w' => e = .returned (.bool r) ∧ Wider W w' := by
 have G := ((Wider.refl W).alloc (.cells #[.int .i64 a0, .int .i64 a1, .int .i64 a2] 47)).alloc (.cells #[.int .i64 b0, .int .i64 b1, .int .i64 b2] 47)
 have hcA : ((W.alloc (.cells #[.int .i64 a0, .int .i64 a1, .int .i64 a2] 47)).alloc (.cells #[.int .i64 b0, .int .i64 b1, .int .i64 b2] 47)).heap[W.heap.size]? = some (.cells #[.int .i64 a0, .int .i64 a1, .int .i64 a2] 47 (0, 0)) := wide_blk (heap_alloc_new W _) ((Wider.refl _).alloc _)
 have hcB : ((W.alloc (.cells #[.int .i64 a0, .int .i64 a1, .int .i64 a2] 47)).alloc (.cells #[.int .i64 b0, .int .i64 b1, .int .i64 b2] 47)).heap[W.heap.size + 1]? = some (.cells #[.int .i64 b0, .int .i64 b1, .int .i64 b2] 47 (0, 0)) := by
  have q := heap_alloc_new (W.alloc (.cells #[.int .i64 a0, .int .i64 a1, .int .i64 a2] 47)) (.cells #[.int .i64 b0, .int .i64 b1, .int .i64 b2] 47)
  rw [show (W.alloc (.cells #[.int .i64 a0, .int .i64 a1, .int .i64 a2] 47)).heap.size = W.heap.size + 1 by simp] at q
  exact q
 have ka0 := blk_cell hcA 0 (v := .int .i64 a0) rfl
 have ka1 := blk_cell hcA 1 (v := .int .i64 a1) rfl
 have ka2 := blk_cell hcA 2 (v := .int .i64 a2) rfl
 have kb0 := blk_cell hcB 0 (v := .int .i64 b0) rfl
 have kb1 := blk_cell hcB 1 (v := .int .i64 b1) rfl
 have kb2 := blk_cell hcB 2 (v := .int .i64 b2) rfl
 obtain ⟨w1, hw1⟩ : ∃ w1, (W.alloc (.cells #[.int .i64 a0, .int .i64 a1, .int .i64 a2] 47)).alloc (.cells #[.int .i64 b0, .int .i64 b1, .int .i64 b2] 47) = w1 := ⟨_, rfl⟩
 rw [hw1] at hcA hcB G ka0 ka1 ka2 kb0 kb1 kb2
 by_cases e0 : a0 = b0
 · subst e0
   by_cases e1 : a1 = b1
   · subst e1
     by_cases e2 : a2 = b2
     · subst e2
       obtain rfl : r = true := hr.1 ⟨rfl, rfl, rfl⟩
       clear hr
       go_enter Tryz.func70, Tryz.ntmps70
       go_upto_region 1 with (fail)
       try rw [hw1]
       go_wp2
       go_ret
       exact ⟨rfl, G⟩
     · have f2 : (a2 == b2) = false := by rw [beq_eq_false_iff_ne]; exact e2
       obtain rfl : r = false := by cases r with | false => rfl | true => (have h := hr.2 rfl; exact absurd (h.2.2) e2)
       clear hr e2
       go_enter Tryz.func70, Tryz.ntmps70
       go_upto_region 1 with (fail)
       try rw [hw1]
       go_wp2
       go_ret
       exact ⟨rfl, G⟩
   · have f1 : (a1 == b1) = false := by rw [beq_eq_false_iff_ne]; exact e1
     obtain rfl : r = false := by cases r with | false => rfl | true => (have h := hr.2 rfl; exact absurd (h.2.1) e1)
     clear hr e1
     go_enter Tryz.func70, Tryz.ntmps70
     go_upto_region 1 with (fail)
     try rw [hw1]
     go_wp2
     go_ret
     exact ⟨rfl, G⟩
 · have f0 : (a0 == b0) = false := by rw [beq_eq_false_iff_ne]; exact e0
   obtain rfl : r = false := by cases r with | false => rfl | true => (have h := hr.2 rfl; exact absurd (h.1) e0)
   clear hr e0
   go_enter Tryz.func70, Tryz.ntmps70
   go_upto_region 1 with (fail)
   try rw [hw1]
   go_wp2
   go_ret
   exact ⟨rfl, G⟩
set_option maxHeartbeats 16000000 in
theorem csameRegs_c (W : World) (a0 : Int) (a1 : Int) (b0 : Int) (b1 : Int) {r : Bool} (hr : (a0 = b0 ∧ a1 = b1) ↔ r = true) :
 Calls Tryz.prog 71 #[.agg #[.int .i64 a0, .int .i64 a1], .agg #[.int .i64 b0, .int .i64 b1]] W fun e w' => e = .returned (.bool r) ∧ Wider W w' := by
 have G := ((Wider.refl W).alloc (.cells #[.int .i64 a0, .int .i64 a1] 49)).alloc (.cells #[.int .i64 b0, .int .i64 b1] 49)
 have hcA : ((W.alloc (.cells #[.int .i64 a0, .int .i64 a1] 49)).alloc (.cells #[.int .i64 b0, .int .i64 b1] 49)).heap[W.heap.size]? = some (.cells #[.int .i64 a0, .int .i64 a1] 49 (0, 0)) := wide_blk (heap_alloc_new W _) ((Wider.refl _).alloc _)
 have hcB : ((W.alloc (.cells #[.int .i64 a0, .int .i64 a1] 49)).alloc (.cells #[.int .i64 b0, .int .i64 b1] 49)).heap[W.heap.size + 1]? = some (.cells #[.int .i64 b0, .int .i64 b1] 49 (0, 0)) := by
  have q := heap_alloc_new (W.alloc (.cells #[.int .i64 a0, .int .i64 a1] 49)) (.cells #[.int .i64 b0, .int .i64 b1] 49)
  rw [show (W.alloc (.cells #[.int .i64 a0, .int .i64 a1] 49)).heap.size = W.heap.size + 1 by simp] at q
  exact q
 have ka0 := blk_cell hcA 0 (v := .int .i64 a0) rfl
 have ka1 := blk_cell hcA 1 (v := .int .i64 a1) rfl
 have kb0 := blk_cell hcB 0 (v := .int .i64 b0) rfl
 have kb1 := blk_cell hcB 1 (v := .int .i64 b1) rfl
 obtain ⟨w1, hw1⟩ : ∃ w1, (W.alloc (.cells #[.int .i64 a0, .int .i64 a1] 49)).alloc (.cells #[.int .i64 b0, .int .i64 b1] 49) = w1 := ⟨_, rfl⟩
 rw [hw1] at hcA hcB G ka0 ka1 kb0 kb1
 by_cases e0 : a0 = b0
 · subst e0
   by_cases e1 : a1 = b1
   · subst e1
     obtain rfl : r = true := hr.1 ⟨rfl, rfl⟩
     clear hr
     go_enter Tryz.func71, Tryz.ntmps71
     go_upto_region 1 with (fail)
     try rw [hw1]
     go_wp2
     go_ret
     exact ⟨rfl, G⟩
   · have f1 : (a1 == b1) = false := by rw [beq_eq_false_iff_ne]; exact e1
     obtain rfl : r = false := by cases r with | false => rfl | true => (have h := hr.2 rfl; exact absurd (h.2) e1)
     clear hr e1
     go_enter Tryz.func71, Tryz.ntmps71
     go_upto_region 1 with (fail)
     try rw [hw1]
     go_wp2
     go_ret
     exact ⟨rfl, G⟩
 · have f0 : (a0 == b0) = false := by rw [beq_eq_false_iff_ne]; exact e0
   obtain rfl : r = false := by cases r with | false => rfl | true => (have h := hr.2 rfl; exact absurd (h.1) e0)
   clear hr e0
   go_enter Tryz.func71, Tryz.ntmps71
   go_upto_region 1 with (fail)
   try rw [hw1]
   go_wp2
   go_ret
   exact ⟨rfl, G⟩
end Go.Proofs.YtoopdhgmdjienaaGreatDoor
