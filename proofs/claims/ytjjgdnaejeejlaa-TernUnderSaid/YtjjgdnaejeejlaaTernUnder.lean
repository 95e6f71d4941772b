/- The law TernUnder: bits of a text that no mask has change nothing of what is found. No condition. -/
import Derived.Test.YtjjgdnaejeejlaaUBits
import Derived.Test.YtjjgdnaejeejlaaSMake
import Derived.StillTailTactics
import Derived.Deep.QuietTactic
namespace Go.Proofs.Ytjjgdnaejeejlaa
set_option linter.unusedVariables false
open Go.ChangeShapes Go.WideShapes Go.ChangeAt Go.RowKit Go.Joins
open Go.ChangeMaps (open_string shut_string)

set_option maxRecDepth 20000 in
set_option maxHeartbeats 16000000 in
theorem ternUnder_walk (w : World) (A : Option Addr) (n cap : Nat) (l : List ActU) (hl : l.length = n) (ha : ActsUAt w A l) (hn : l.length ≤ maxLen) (hz : ∀ y ∈ l, y.Ok) (key : ByteArray) (hkey : key.size ≤ maxLen) (bs : ByteArray) (hbs : bs.size ≤ maxLen) :
    Calls Try.prog 5 #[.slice A n cap, .string key, .string bs] w fun e w' => e = .returned (.bool true) ∧ Wider w w' := by
  unfold maxLen at hn hkey hbs
  have H : Own w w [] := Own.nil (Wider.refl w)
  by_cases hb : 4000 ≤ bulkU l
  · have zl := fun w1 (g : Wider w w1) => ulong_c A n cap l w1 (ha.on g) hl (by omega) (fun x hx => by have a := (hz x hx).x.ks; have b := (hz x hx).x.ms; unfold maxLen at a b; omega) (decide_eq_true hb)
    clear hl ha hn hz hb
    go_enter Try.func5, Try.ntmps5
    go_wp2_with (first
      | (go_at_call 22; ((with_reducible refine (zl _ H.wider).mono ?_); rintro e w9 ⟨rfl, g9⟩; replace H := H.quiet g9; clear g9))
      | (go_at_call 9; ((with_reducible refine (awake12_c _).mono ?_); rintro e wa ⟨rfl, g⟩; replace H := H.quiet g; clear g)))
    go_ret
    exact ⟨rfl, H.wider⟩
  · have zl := fun w1 (g : Wider w w1) => ulong_c A n cap l w1 (ha.on g) hl (by omega) (fun x hx => by have a := (hz x hx).x.ks; have b := (hz x hx).x.ms; unfold maxLen at a b; omega) (decide_eq_false hb)
    have HF := Lib.hid (fineU_of (by omega) hz)
    have HL := Lib.hid hl
    have HA := Lib.hid ha
    have hn1 : n < 1000 := by have := HF.out.1; omega
    clear hl ha hn hz hb
    by_cases bkey : 1000 < key.size
    · have fkey : (1000 : Int) < (key.size : Int) := by omega
      have ffkey : decide ((1000 : Int) < (key.size : Int)) = true := decide_eq_true (by omega)
      go_enter Try.func5, Try.ntmps5
      go_wp2_with (first
        | (go_at_call 22; ((with_reducible refine (zl _ H.wider).mono ?_); rintro e w9 ⟨rfl, g9⟩; replace H := H.quiet g9; clear g9))
        | (go_at_call 9; ((with_reducible refine (awake12_c _).mono ?_); rintro e wa ⟨rfl, g⟩; replace H := H.quiet g; clear g)))
      go_ret
      exact ⟨rfl, H.wider⟩
    have fkey : ¬ (1000 : Int) < (key.size : Int) := by omega
    have ffkey : decide ((1000 : Int) < (key.size : Int)) = false := decide_eq_false (by omega)
    have hkeyk : key.size < 1000000 := by omega
    by_cases bbs : 1000 < bs.size
    · have fbs : (1000 : Int) < (bs.size : Int) := by omega
      have ffbs : decide ((1000 : Int) < (bs.size : Int)) = true := decide_eq_true (by omega)
      go_enter Try.func5, Try.ntmps5
      go_wp2_with (first
        | (go_at_call 22; ((with_reducible refine (zl _ H.wider).mono ?_); rintro e w9 ⟨rfl, g9⟩; replace H := H.quiet g9; clear g9))
        | (go_at_call 9; ((with_reducible refine (awake12_c _).mono ?_); rintro e wa ⟨rfl, g⟩; replace H := H.quiet g; clear g)))
      go_ret
      exact ⟨rfl, H.wider⟩
    have fbs : ¬ (1000 : Int) < (bs.size : Int) := by omega
    have ffbs : decide ((1000 : Int) < (bs.size : Int)) = false := decide_eq_false (by omega)
    have hbsk : bs.size < 1000000 := by omega
    have HM := Lib.hid (fine_made HF.out)
    have HLN := Lib.hid (madeL_len l)
    go_enter Try.func5, Try.ntmps5
    go_upto_region 4 with (first
      | (go_at_call 22; ((with_reducible refine (zl _ H.wider).mono ?_); rintro e w9 ⟨rfl, g9⟩; replace H := H.quiet g9; clear g9))
      | (go_at_call 9; ((with_reducible refine (awake12_c _).mono ?_); rintro e wa ⟨rfl, g⟩; replace H := H.quiet g; clear g))
      | (go_at_call 23; ((with_reducible refine (umade_c HL.out (HA.out) HF.out H).mono ?_); rintro e w1 ⟨S, rfl, K⟩; clear H)))
    obtain ⟨L, hLe⟩ : ∃ L, madeL l = L := ⟨_, rfl⟩
    obtain ⟨m, hm⟩ : ∃ m, L.length = m := ⟨_, rfl⟩
    have hmn : m ≤ n := by have := HLN.out; rw [HL.out, hLe, hm] at this; exact this
    obtain ⟨kn, hkn⟩ : ∃ kn, key.size = kn := ⟨_, rfl⟩
    obtain ⟨bn, hbn⟩ : ∃ bn, bs.size = bn := ⟨_, rfl⟩
    rw [hLe] at K
    have HLM := Lib.hid hm
    have HKN := Lib.hid hkn
    have HBN := Lib.hid hbn
    have HKS := Lib.hid hkeyk
    have HMS := Lib.hid (show ∀ x ∈ L, x.mask.size < 1000000 from fun x hx => by rw [← hLe] at hx; exact (HM.out.of x hx).2.2.2)
    have hcv := run_bytes_of_string (P := Try.prog) w1 9 43 5 key Try.underlying9 Try.underlying43 Try.underlying5
    obtain ⟨cp, hcap⟩ : ∃ c : Nat, grownCap w1 key.size 0 5 = c := ⟨_, rfl⟩
    rw [hcap, hkn] at hcv
    have hr := (Bts.text w1 key cp 5).on (Wider.refl _).drew
    rw [hkn] at hr
    have K0 : SetIs w (w1.alloc (.cells (bytesRow key cp) 5 ((bytesRow key cp).size, (bytesRow key cp).size + 1))).drew [btsT w1.heap.size kn (fun q => ((bufU key bs L 0 q).toNat : Int))] S L n := K.bytes ((Wider.refl w1).alloc _).drew (hr.congr fun j hj => by unfold bufU; rw [if_neg (Nat.not_lt_zero j)]; rfl) (Nat.le_refl _) (by simp [World.drew])
    have bk : kn ≤ 1000 := by rw [← hkn]; omega
    have bb : bn ≤ 1000 := by rw [← hbn]; omega
    clear hLe hm zl hcap hkn hbn hr K
    go_wp2
    obtain ⟨W0, hW0⟩ : ∃ W0, (w1.alloc (.cells (bytesRow key cp) 5 ((bytesRow key cp).size, (bytesRow key cp).size + 1))).drew = W0 := ⟨_, rfl⟩
    obtain ⟨B0, hB0⟩ : ∃ B0, w1.heap.size = B0 := ⟨_, rfl⟩
    rw [hW0, hB0] at K0
    have HK0 := Lib.hid K0
    rw [hW0]
    try rw [hB0]
    clear hcv hW0 hB0 K0
    go_loopw [9] (fun i wr => ∃ j : Nat, j ≤ kn ∧ j ≤ bn ∧ i = .int .i64 (j : Int) ∧ SetIs w wr [btsT B0 kn (fun q => ((bufU key bs L j q).toNat : Int))] S L n) (fun i _ => kn - (intOf i).toNat)
    case atStart => exact ⟨0, Nat.zero_le _, Nat.zero_le _, rfl, HK0.out⟩
    case round =>
      clear HK0
      obtain ⟨j, jk, jb, rfl, K⟩ := hrel
      have i0 : (kn : Int) = (key.size : Int) := by rw [HKN.out]
      have i1 : (bs.size : Int) = (bn : Int) := by rw [HBN.out]
      have j0 : (0 : Int) ≤ (j : Int) := by omega
      by_cases c : j < kn ∧ j < bn
      · obtain ⟨ck, cb⟩ := c
        have c1 : (j : Int) < (kn : Int) := by omega
        have c2 : (j : Int) < (bn : Int) := by omega
        have c3 : decide ((j : Int) < (kn : Int)) = true := decide_eq_true c1
        have c4 : decide ((j : Int) < (bn : Int)) = true := decide_eq_true c2
        clear i0
        go_wp2_with (first
          | (go_at_call 20; ((with_reducible refine (sall_o K (by omega) HLM.out).mono ?_); rintro e w4 ⟨B4, c4', rfl, K4⟩; clear K)))
        go_loopw [10, 12] (fun a b wi => ∃ q : Nat, q ≤ m ∧ (∃ o : UInt8, a = .int .u8 (o.toNat : Int) ∧ Hid (orU j (L.take q) = o)) ∧ b = .int .i64 (q : Int) ∧ SetIs w wi [rowI (.slice B4 m c4') m L, btsT B0 kn (fun q => ((bufU key bs L j q).toNat : Int))] S L n) (fun _ b _ => m - (intOf b).toNat)
        case atStart => exact ⟨0, Nat.zero_le _, ⟨0, rfl, Lib.hid rfl⟩, rfl, K4⟩
        case round =>
          clear K4
          obtain ⟨q, hq, ⟨o, rfl, HO⟩, rfl, K⟩ := hrel
          have q0 : (0 : Int) ≤ (q : Int) := by omega
          by_cases c : q < m
          · have q1 : (q : Int) < (m : Int) := by omega
            obtain ⟨x, hx⟩ : ∃ x, L[q]? = some x := ⟨L[q]'(by rw [HLM.out]; exact c), List.getElem?_eq_getElem _⟩
            have hxs := HMS.out x (List.mem_of_getElem? hx)
            obtain ⟨B, c5, e, hc⟩ := row_slice K.rest.head (by omega)
            injection e with e1 e2 e3
            subst e1 e3
            obtain ⟨_, a1, _, _⟩ := cellsI_at L q x hx
            have x1 := hc _ _ a1
            have HN := orU_next j L q x hx
            rw [HO.out] at HN
            unfold stepO at HN
            obtain ⟨M, hM⟩ : ∃ M, x.mask = M := ⟨_, rfl⟩
            rw [hM] at x1 HN hxs
            clear hc a1 hx hM
            by_cases d : j < M.size
            · have d1 : (j : Int) < (M.size : Int) := by omega
              rw [if_pos d] at HN
              have ho := or_u8 o (getb M j)
              rw [← getb_at M j d] at ho HN
              obtain ⟨o2, ho2⟩ : ∃ o2, o ||| M[j] = o2 := ⟨_, rfl⟩
              rw [ho2] at ho HN
              have HNN := Lib.hid HN
              clear HN ho2
              go_wp2
              go_roundw
              case rel => exact ⟨q + 1, by omega, ⟨o2, rfl, HNN⟩, by go_num, K⟩
              case measure => simp [intOf]; omega
            · have d1 : ¬ (j : Int) < (M.size : Int) := by omega
              rw [if_neg d] at HN
              have HNN := Lib.hid HN
              clear HN
              go_wp2
              go_roundw
              case rel => exact ⟨q + 1, by omega, ⟨o, rfl, HNN⟩, by go_num, K⟩
              case measure => simp [intOf]; omega
          · obtain rfl : q = m := by omega
            have q1 : ¬ (q : Int) < (q : Int) := by omega
            have HOL : Hid (orU j L = o) := Lib.hid (by have := HO.out; rw [List.take_of_length_le (by rw [HLM.out]; exact Nat.le_refl _)] at this; exact this)
            have hb : Bts _ B0 kn (fun q => ((bufU key bs L j q).toNat : Int)) := K.rest.holds _ ms1
            have x0 := hb.cell j ck
            have f0 := hb.free j ck
            have e0 : bufU key bs L j j = getb key j := by unfold bufU; rw [if_neg (Nat.lt_irrefl j)]
            simp only [e0] at x0
            have hjb : j < bs.size := by rw [HBN.out]; exact cb
            have z1 := andNot_u8 (getb bs j) o
            rw [← getb_at bs j hjb] at z1
            obtain ⟨y1, hy1⟩ : ∃ y1, bs[j] &&& ~~~o = y1 := ⟨_, rfl⟩
            rw [hy1] at z1
            have z2 := xor_u8 (getb key j) y1
            obtain ⟨y2, hy2⟩ : ∃ y2, getb key j ^^^ y1 = y2 := ⟨_, rfl⟩
            rw [hy2] at z2
            obtain ⟨kb, hkb⟩ : ∃ kb, getb key j = kb := ⟨_, rfl⟩
            rw [hkb] at z2 x0
            have HY : Hid (bufU key bs L (j + 1) j = y2) := Lib.hid (by
              unfold bufU
              rw [if_pos (Nat.lt_succ_self j), HOL.out, ← hy2, ← hy1, getb_at bs j hjb])
            have KK := Lib.hid K
            clear K hb e0 hy1 hy2 hkb
            go_upto_region 15 with (fail)
            go_still_tail 13, (by kernel_rfl)
            change wpList _ _ _ _ _ wr.drew
            have K2 := (KK.out.dropR).quiet (Wider.refl wr).drew
            have K3 := K2.putByte (y := (y2.toNat : Int)) (u := fun q => ((bufU key bs L (j + 1) q).toNat : Int)) ck fun q hq => by
              by_cases e : q = j
              · rw [if_pos e, e, HY.out]
              · rw [if_neg e]
                unfold bufU
                by_cases d : q < j
                · rw [if_pos d, if_pos (by omega)]
                · rw [if_neg d, if_neg (by omega)]
            have K3 := Lib.hid K3
            clear KK K2
            go_wp2
            go_roundw
            case rel => exact ⟨j + 1, by omega, by omega, by go_num, K3.out⟩
            case measure => simp [intOf]; omega
      · have HT := Lib.hid (fun x (hx : x ∈ L) => outU_match key bs L j hx)
        have hts : (outU key bs L j).size < 1000000 := by rw [outU_size]; exact HKS.out
        obtain ⟨T, hT⟩ : ∃ T, outU key bs L j = T := ⟨_, rfl⟩
        obtain ⟨lk, hlk⟩ : ∃ lk : Nat, looksF key L = lk := ⟨_, rfl⟩
        obtain ⟨is, his⟩ : ∃ is, (findF key L).isSome = is := ⟨_, rfl⟩
        obtain ⟨⟨k0, m0, p0, v0⟩, hf0⟩ : ∃ x, (findF key L).getD zeroI = x := ⟨_, rfl⟩
        have HNU := Lib.hid (outU_nums key bs L j kn HKN.out)
        rw [hT] at HT HNU hts
        have HFK := findF_key HT.out
        have HLK0 := looksF_key HT.out
        have HF0 := Lib.hid hf0
        have HIS := Lib.hid his
        have HLK := Lib.hid (show ((looksF key L : Nat) : Int) = (lk : Int) by rw [hlk])
        rw [HFK] at hf0 his
        rw [HLK0] at hlk
        have HF1 := Lib.hid hf0
        have HIS1 := Lib.hid his
        have HLK1 := Lib.hid (show ((looksF T L : Nat) : Int) = (lk : Int) by rw [hlk])
        have hkk := HKS.out
        have hcnd : ((j : Int) < (kn : Int) ∧ ¬ (j : Int) < (bn : Int)) ∨ ¬ (j : Int) < (kn : Int) := by
          by_cases a : j < kn
          · exact .inl ⟨by omega, by omega⟩
          · exact .inr (by omega)
        clear hf0 his hlk HFK HLK0 hT c
        rcases hcnd with ⟨g1, g2⟩ | g1
        · have g3 : decide ((j : Int) < (kn : Int)) = true := decide_eq_true g1
          have g4 : decide ((j : Int) < (bn : Int)) = false := decide_eq_false g2
          go_upto_region 17 with (first
        | (go_at_call 18; ((with_reducible refine (sfind_o K (by omega) hkk HF0.out HIS.out).mono ?_); rintro e w3 ⟨rfl, K3⟩; clear K; replace K3 := K3.blk #[.string k0, .string m0, .int .i64 p0, .int .i64 v0] 26)))
          obtain ⟨B3, hB3⟩ : ∃ B3, w3.heap.size = B3 := ⟨_, rfl⟩
          obtain ⟨W3, hW3⟩ : ∃ W3, w3.alloc (.cells #[.string k0, .string m0, .int .i64 p0, .int .i64 v0] 26) = W3 := ⟨_, rfl⟩
          rw [hW3, hB3] at K3
          rw [hW3]
          try rw [hB3]
          clear hW3 hB3
          have hb : Bts W3 B0 kn (fun q => ((bufU key bs L j q).toNat : Int)) := K3.rest.holds _ ms1
          have hcv := hb.conv cp HNU.out
          clear hb
          go_upto_region 18 with (first
        | (go_at_call 18; ((with_reducible refine (sfind_o K3 (by omega) hts HF1.out HIS1.out).mono ?_); rintro e w5 ⟨rfl, K5⟩; clear K3 hcv; replace K5 := K5.blk #[.string k0, .string m0, .int .i64 p0, .int .i64 v0] 26)))
          obtain ⟨B5, hB5⟩ : ∃ B5, w5.heap.size = B5 := ⟨_, rfl⟩
          obtain ⟨W5, hW5⟩ : ∃ W5, w5.alloc (.cells #[.string k0, .string m0, .int .i64 p0, .int .i64 v0] 26) = W5 := ⟨_, rfl⟩
          rw [hW5, hB5] at K5
          rw [hW5]
          try rw [hB5]
          clear hW5 hB5
          obtain ⟨a0, a1, a2, a3⟩ := K5.item (B := B5) (k := k0) (m := m0) (q := p0) (v := v0) ms0
          obtain ⟨b0, b1, b2, b3⟩ := K5.item (B := B3) (k := k0) (m := m0) (q := p0) (v := v0) ms1
          have hb : Bts W5 B0 kn (fun q => ((bufU key bs L j q).toNat : Int)) := K5.rest.holds _ (.tail _ (.tail _ (.head _)))
          have zc := fun (z : After W5) => (hb.on z.h).conv cp HNU.out
          have za0 := fun (z : After W5) => wkeep z.h a0
          have za1 := fun (z : After W5) => wkeep z.h a1
          have za2 := fun (z : After W5) => wkeep z.h a2
          have za3 := fun (z : After W5) => wkeep z.h a3
          have zb0 := fun (z : After W5) => wkeep z.h b0
          have zb1 := fun (z : After W5) => wkeep z.h b1
          have zb2 := fun (z : After W5) => wkeep z.h b2
          have zb3 := fun (z : After W5) => wkeep z.h b3
          have zl := fun (z : After W5) => slooks_w (K5.quiet z.h) (by omega) hkk HLK.out
          have zl2 := fun (z : After W5) => slooks_w (K5.quiet z.h) (by omega) hts HLK1.out
          clear a0 a1 a2 a3 b0 b1 b2 b3 hb
          refine wp_region_after (by kernel_rfl) (by kernel_rfl) (Wider.refl W5) ?_
          repeat (go_big_quiet_step (first | (go_at_call 19; with_reducible exact quiet_after (zl _)) | (go_at_call 19; with_reducible exact quiet_after (zl2 _))))
          refine wpQuiet_nil ?_
          rintro _ ⟨z, rfl⟩
          go_wp2
          go_ret
          exact ⟨rfl, K5.wider.trans z.h⟩
        · have g3 : decide ((j : Int) < (kn : Int)) = false := decide_eq_false g1
          go_upto_region 17 with (first
        | (go_at_call 18; ((with_reducible refine (sfind_o K (by omega) hkk HF0.out HIS.out).mono ?_); rintro e w3 ⟨rfl, K3⟩; clear K; replace K3 := K3.blk #[.string k0, .string m0, .int .i64 p0, .int .i64 v0] 26)))
          obtain ⟨B3, hB3⟩ : ∃ B3, w3.heap.size = B3 := ⟨_, rfl⟩
          obtain ⟨W3, hW3⟩ : ∃ W3, w3.alloc (.cells #[.string k0, .string m0, .int .i64 p0, .int .i64 v0] 26) = W3 := ⟨_, rfl⟩
          rw [hW3, hB3] at K3
          rw [hW3]
          try rw [hB3]
          clear hW3 hB3
          have hb : Bts W3 B0 kn (fun q => ((bufU key bs L j q).toNat : Int)) := K3.rest.holds _ ms1
          have hcv := hb.conv cp HNU.out
          clear hb
          go_upto_region 18 with (first
        | (go_at_call 18; ((with_reducible refine (sfind_o K3 (by omega) hts HF1.out HIS1.out).mono ?_); rintro e w5 ⟨rfl, K5⟩; clear K3 hcv; replace K5 := K5.blk #[.string k0, .string m0, .int .i64 p0, .int .i64 v0] 26)))
          obtain ⟨B5, hB5⟩ : ∃ B5, w5.heap.size = B5 := ⟨_, rfl⟩
          obtain ⟨W5, hW5⟩ : ∃ W5, w5.alloc (.cells #[.string k0, .string m0, .int .i64 p0, .int .i64 v0] 26) = W5 := ⟨_, rfl⟩
          rw [hW5, hB5] at K5
          rw [hW5]
          try rw [hB5]
          clear hW5 hB5
          obtain ⟨a0, a1, a2, a3⟩ := K5.item (B := B5) (k := k0) (m := m0) (q := p0) (v := v0) ms0
          obtain ⟨b0, b1, b2, b3⟩ := K5.item (B := B3) (k := k0) (m := m0) (q := p0) (v := v0) ms1
          have hb : Bts W5 B0 kn (fun q => ((bufU key bs L j q).toNat : Int)) := K5.rest.holds _ (.tail _ (.tail _ (.head _)))
          have zc := fun (z : After W5) => (hb.on z.h).conv cp HNU.out
          have za0 := fun (z : After W5) => wkeep z.h a0
          have za1 := fun (z : After W5) => wkeep z.h a1
          have za2 := fun (z : After W5) => wkeep z.h a2
          have za3 := fun (z : After W5) => wkeep z.h a3
          have zb0 := fun (z : After W5) => wkeep z.h b0
          have zb1 := fun (z : After W5) => wkeep z.h b1
          have zb2 := fun (z : After W5) => wkeep z.h b2
          have zb3 := fun (z : After W5) => wkeep z.h b3
          have zl := fun (z : After W5) => slooks_w (K5.quiet z.h) (by omega) hkk HLK.out
          have zl2 := fun (z : After W5) => slooks_w (K5.quiet z.h) (by omega) hts HLK1.out
          clear a0 a1 a2 a3 b0 b1 b2 b3 hb
          refine wp_region_after (by kernel_rfl) (by kernel_rfl) (Wider.refl W5) ?_
          repeat (go_big_quiet_step (first | (go_at_call 19; with_reducible exact quiet_after (zl _)) | (go_at_call 19; with_reducible exact quiet_after (zl2 _))))
          refine wpQuiet_nil ?_
          rintro _ ⟨z, rfl⟩
          go_wp2
          go_ret
          exact ⟨rfl, K5.wider.trans z.h⟩
set_option maxRecDepth 100000 in
theorem ternUnder_lifted (os : Os) (started : os.Started) (H : Type) (enc : TypeId × Value → H) :
    ReturnsInHanded {} Try.checked os 5 .any (Rows.ternUnderSpec.pre6 enc Try.prog Try.f5 Rows.ternUnderRow.domain false) (Rows.ternUnderSpec.post enc Try.prog Try.f5 false true false false) := by
  refine returnsInHanded_of_change (C := Try.checked) own started (by kernel_rfl) Try.func5
    (ChangeSpec.witness6 (enc := enc) (C := Try.checked) false ⟨#[], #[.slice none 0 0, .string ⟨#[]⟩, .string ⟨#[]⟩], []⟩ 8 (by kernel_rfl) (by kernel_rfl) (by kernel_rfl) (by kernel_rfl)) ?_
  intro W base args ds gs before hval0 hW hcnd _
  have hval : ∀ (j : Nat) t v, Try.f5.params[j]? = some t → args[j]? = some v → Value.okWide Try.prog W .any base t v := hval0
  have hW' := hW
  obtain ⟨p, q, hA0, hV, rfl, hfz, hnd⟩ := hW
  have hA : DataW.TrodAll enc Try.prog W 0 (fun _ => true) true Try.f5.params.toList args.toList ds p := hA0
  rw [Try.params5] at hA hval
  obtain ⟨v0, vs0, d0, ds0, p0, q0, hargs, rfl, rfl, h0, r0⟩ := trodAll_cons hA
  obtain ⟨v1, vs1, d1, ds1, p1, q1, rfl, rfl, rfl, h1, r1⟩ := trodAll_cons r0
  obtain ⟨v2, vs2, d2, ds2, p2, q2, rfl, rfl, rfl, h2, r2⟩ := trodAll_cons r1
  obtain ⟨rfl, rfl, rfl⟩ := trodAll_nil r2
  obtain rfl : args = #[v0, v1, v2] := by cases args; simp_all
  obtain ⟨rfl, rfl⟩ := trodVars_none hV
  have h0k := h0
  obtain ⟨A0, len0, cap0, rfl⟩ := okWide_slice Try.underlying40 (hval 0 40 v0 rfl rfl)
  obtain ⟨fuel0, hf0⟩ := h0
  obtain ⟨l0, hl0, ha0, hm0, hz0⟩ := open_actsU hf0
  obtain ⟨s1, rfl, rfl, rfl, w1⟩ := open_string Try.underlying9 (hval 1 9 v1 rfl rfl) h1
  obtain ⟨s2, rfl, rfl, rfl, w2⟩ := open_string Try.underlying9 (hval 2 9 v2 rfl rfl) h2
  clear hA0 hval0
  simp only [List.append_nil] at hW'
  refine (ternUnder_walk W A0 len0 cap0 l0 hl0 ha0 hm0 hz0 s1 w1 s2 w2).mono fun e W' ⟨he, hg⟩ => ?_
  subst he
  have hlt : ∀ x ∈ p0, x.block < W.heap.size := fun x hx => by simpa using hW'.lt x hx
  exact ⟨_, rfl, post_of_wider (pv := []) hW' (fun _ _ _ => (trodAll_cons_mk (shut_bool Try.underlying4 _) trodAll_mk0)) (fun sp hsp => (trodAll_cons_mk (WideElems.Trod_stays laid3 (by kernel_rfl) (of_decide_eq_true (by kernel_rfl)) h0k (fun x hx => wsame hg (hlt x (by simp [hx]))) (fun x hx => hsp x (by simp [hx]))) (trodAll_cons_mk (shut_string Try.underlying9 w1) (trodAll_cons_mk (shut_string Try.underlying9 w2) trodAll_mk0)))) (fun _ _ => rfl) (by simp)
    hg (ok_one (by kernel_rfl) rfl (okWide_bool_mk Try.underlying4 _))⟩

theorem ternUnder_holds : Rows.TernUnderSaid :=
  OpenClaim.holds_of_wide 5 Try.f5 rfl rfl rfl rfl rfl rfl rfl ⟨rfl, rfl, rfl, rfl, rfl⟩ rfl rfl rfl rfl rfl (by kernel_rfl) Try.func5 (by kernel_rfl)
    (of_decide_eq_true (by kernel_rfl)) (by unfold Func.isWrapper; first | (rw [if_pos (by decide +kernel)]; kernel_rfl) | (rw [if_neg (by decide +kernel)]; exact ⟨rfl, rfl⟩))
    (fun os started H enc _ => ternUnder_lifted os started H enc)

#print axioms ternUnder_holds

end Go.Proofs.Ytjjgdnaejeejlaa
