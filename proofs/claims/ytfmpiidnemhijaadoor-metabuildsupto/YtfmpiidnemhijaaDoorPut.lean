/- Own text: the walk of the writer's inner 'put': the r lowest bits of n are written behind what was there, and nothing else in memory turns. -/
import Derived.Test.YtfmpiidnemhijaaDoorRows
import Derived.Test.YtfmpiidnemhijaaDoorWriter
import Derived.Test.YtfmpiidnemhijaaDoorWords
import Derived.WalkKit
import Derived.WalkLawsBesides
import Derived.RegionTactic
import Derived.Deep.QuietTactic
import Derived.BigQuiet
import Derived.Outline
namespace Go.Proofs.YtfmpiidnemhijaaDoor
open Go.RowKit
set_option linter.unusedSimpArgs false
set_option linter.unusedVariables false


theorem Tryd.info5 : (Tryd.prog.info? 5).map (fun i => (i.zero, i.size, i.bytes)) = some (some (.int .u8 0), 1, 1) := by kernel_rfl

/-- The stored byte, as the walk spells it. -/
theorem put_byte (B : List Nat) (n l k t : Nat) (hn : n < 18446744073709551616) (h01 : Bits01 B) (h0 : 0 < l) (h1 : 8 * l ≤ B.length + 8) (h2 : B.length + t ≤ 8 * l) :
    bits BinOp.or IntKind.u8 ((byteOf B (l - 1) : Nat) : Int) (IntKind.u64.wrap (bits BinOp.and IntKind.u64 ((n / 2 ^ k : Nat) : Int) (IntKind.u64.wrap (IntKind.u64.wrap (2 ^ t) - 1)) * 2 ^ (8 * l - B.length - t)) % 256)
      = ((byteOf B (l - 1) + (n / 2 ^ k) % 2 ^ t * 2 ^ (8 * l - B.length - t) : Nat) : Int) := by
  have hd : n / 2 ^ k < 18446744073709551616 := Nat.lt_of_le_of_lt (Nat.div_le_self _ _) hn
  rw [mask_u64 _ t hd (by omega)]
  obtain ⟨q, hq⟩ := byteOf_room B (l - 1) (by omega) (by omega)
  exact or_u8 _ _ t _ q (by rw [hq]; congr 2; omega) (byteOf_lt B h01 _) (Nat.mod_lt _ (Nat.two_pow_pos t)) (by omega)

theorem put_byte0 (B : List Nat) (n l t : Nat) (hn : n < 18446744073709551616) (h01 : Bits01 B) (h0 : 0 < l) (h1 : 8 * l ≤ B.length + 8) (h2 : B.length + t ≤ 8 * l) :
    bits BinOp.or IntKind.u8 ((byteOf B (l - 1) : Nat) : Int) (IntKind.u64.wrap (bits BinOp.and IntKind.u64 (n : Int) (IntKind.u64.wrap (IntKind.u64.wrap (2 ^ t) - 1)) * 2 ^ (8 * l - B.length - t)) % 256)
      = ((byteOf B (l - 1) + n % 2 ^ t * 2 ^ (8 * l - B.length - t) : Nat) : Int) := by
  have h := put_byte B n l 0 t hn h01 h0 h1 h2
  simpa using h

theorem put_byte1 (B : List Nat) (n l k : Nat) (hn : n < 18446744073709551616) (h01 : Bits01 B) (h0 : 0 < l) (h1 : 8 * l ≤ B.length + 8) (h2 : B.length ≤ 8 * l) :
    bits BinOp.or IntKind.u8 ((byteOf B (l - 1) : Nat) : Int) (IntKind.u64.wrap (bits BinOp.and IntKind.u64 ((n : Int) / 2 ^ k) (IntKind.u64.wrap (IntKind.u64.wrap (2 ^ (8 * l - B.length)) - 1))) % 256)
      = ((byteOf B (l - 1) + n / 2 ^ k % 2 ^ (8 * l - B.length) : Nat) : Int) := by
  have h := put_byte B n l k (8 * l - B.length) hn h01 h0 h1 (by omega)
  simpa using h

theorem cell_new (w : World) (v : Value) (t : TypeId) : (w.alloc (.cells #[v] t)).cell? ((Addr.mk w.heap.size 0 none).add 0) = some v := by
  have h : (Addr.mk w.heap.size 0 none).add 0 = ⟨w.heap.size, 0, none⟩ := by simp [Addr.add]
  rw [h]
  simp only [World.cell?, heap_alloc_new]
  rfl

theorem footrow {n g p : Nat} {ao : Option Addr} {j : Nat} (h : Moved n ao (some ⟨g, 0, none⟩)) : foot p ao (Addr.mk g j none).block ∨ n ≤ (Addr.mk g j none).block := by
  rcases h g rfl with h1 | h1
  · exact .inl (.inr h1)
  · exact .inr h1

set_option maxRecDepth 20000 in
set_option maxHeartbeats 1600000 in
theorem put_spec (p n r : Nat) (hn : n < 18446744073709551616) (hr : r ≤ 64) (w : World) (ao : Option Addr) (B : List Nat) (h01 : Bits01 B) (hB : B.length ≤ 1000000000000) (hw : WrB w p ao B) :
    Calls Tryd.prog 60 #[.pointer (some ⟨p, 0, none⟩), .int .u64 (n : Int), .int .i64 (r : Int)] w fun e w' =>
      e = .returned (.tuple #[]) ∧ ∃ ao', WrB w' p ao' (B ++ bitsOf n r) ∧ Stays (foot p ao) w w' ∧ Moved w.heap.size ao ao' := by
  obtain ⟨i0, hi, hz0, hz1, hz2⟩ := info_parts Tryd.info5
  go_enter Tryd.func60, Tryd.ntmps60
  go_wp2
  go_loopw [2] (fun t wr => ∃ (k : Nat) (ao' : Option Addr) (Bc : List Nat), k ≤ r ∧ t = .int .i64 (k : Int) ∧ WrB wr p ao' Bc ∧ Bits01 Bc ∧ Bc ++ bitsOf n k = B ++ bitsOf n r ∧ Stays (foot p ao) w wr ∧ Moved w.heap.size ao ao') (fun t _ => (intOf t).toNat)
  case atStart => exact ⟨r, ao, B, Nat.le_refl _, rfl, hw, h01, rfl, Stays.refl _ _, Moved.refl _ _⟩
  case round =>
    obtain ⟨k, ao', Bc, hk, rfl, ⟨cap, hW⟩, hc01, heq, hS, hM⟩ := hrel
    have hlen : Bc.length + k = B.length + r := by have := congrArg List.length heq; simpa [bitsOf_length] using this
    have hbig : Bc.length ≤ 1000000000064 := by omega
    have HE : Hid (Bc ++ bitsOf n k = B ++ bitsOf n r) := heq
    have hpl := pack_length Bc
    clear heq hlen hB hw
    by_cases h0 : 0 < k
    · by_cases hfull : Bc.length = 8 * (pack Bc).length
      · have hpf := packN_full Bc hfull
        generalize hL : (pack Bc).length = l0 at *
        have hne : ((Bc.length : Int) == 8 * (l0 : Int)) = true := by simp; omega
        have a0 := hW.c0
        have a1 := hW.c1
        have b0 := hW.f 0
        rw [hL] at a0
        have hown := hW.own
        rw [hL] at hown
        have hps := hW.lt
        have HP : Hid _ := hpf
        have HL : Hid _ := hL
        have hl40 : l0 ≤ 200000000000 := by omega
        clear hpf hL hpl
        go_wp2
        go_quiet (fail)
        go_wp2_with (at_builtin; refine wpList_append_mine _ rfl _ _ 63 rfl 5 i0 (.int .u8 0) 1 Tryd.underlying63 hi hz0 hz1 hz2 rfl ao' cap l0 _ rfl (owns_alloc (owns_drewN hown _) _) ⟨wr.heap.size, 0, none⟩ 1 1 [.int .u8 0] rfl rfl ?ca ?cb ?cc ?cd ?ce)
        case ca =>
          intro j u hj
          match j, hj with
          | 0, hj => simp at hj; subst hj; exact (cell_new (wr.drewN nq) (.int .u8 0) 5)
        case cb => intro u hu; simp at hu; subst hu; rfl
        case cc => unfold maxLen; omega
        case cd => omega
        case ce =>
          intro ao2 cap2 w1 hown2 hgr hmv
          obtain ⟨l, hl⟩ : ∃ l, l = l0 + 1 := ⟨_, rfl⟩
          have hWa : Wr ((wr.drewN nq).alloc (.cells #[.int .u8 0] 5)) p ao' cap (pack Bc) Bc.length := (hW.drewN nq).kept (Below.heap_alloc _ _ _ hps) (fun b hb => Below.heap_alloc _ _ _ (hW.blocks b hb))
          have q0 : w1.cell? ⟨p, 0, none⟩ = some (.slice ao' l0 cap) := by
            rw [World.cell?_of_block (hgr.block p hWa.lt (fun e => hW.ne e.symm)), hWa.c0, HL.out]
          have qf : w1.frozen? ⟨p, 0, none⟩ = false := by
            rw [World.frozen?_of_block (hgr.block p hWa.lt (fun e => hW.ne e.symm)), hWa.f 0]
          have hWx : Wr (w1.setCell ⟨p, 0, none⟩ (.slice ao2 l cap2)) p ao2 cap2 (packN Bc l) Bc.length := by
            have e : packN Bc l = pack Bc ++ [0] := by rw [hl]; exact HP.out
            refine hWa.setSlice hgr (by simpa using hmv) l (by rw [packN_length]) ?_
            rw [e, byteVals_append, hl]
            exact hown2
          have hSx : Stays (foot p ao) w (w1.setCell ⟨p, 0, none⟩ (.slice ao2 l cap2)) := by
            have s1 : Stays (foot p ao') wr w1 := by
              refine Stays.trans (T := foot p ao') (b := (wr.drewN nq).alloc (.cells #[.int .u8 0] 5)) ?_ (Stays.of_grown hgr (fun b hb => .inr hb)) (fun i _ h => h)
              exact ⟨rfl, rfl, rfl, by simp, fun i hi _ => Below.heap_alloc _ _ _ hi⟩
            exact (hS.foot s1 hM).setCell _ _ (.inl (.inl rfl))
          have hMx : Moved w.heap.size ao ao2 := hM.trans hmv (by have := hS.size; simp; omega)
          rw [← hl]
          have hl0 : 0 < l := by omega
          have hl1 : 8 * l ≤ Bc.length + 8 := by omega
          have hl2 : Bc.length < 8 * l := by omega
          clear hl hown2 hgr hmv hWa hfull hne a0 a1 b0 hown hW HP HL hS hM
          go_wp2
          generalize hwx : World.setCell _ _ _ = wx at *
          clear hwx q0 qf
          have hS := hSx
          have hM := hMx
          have hWl := hWx
          clear hSx hMx hWx
          obtain ⟨g, rfl, hgp, hglt, hlc, hcm⟩ := hWl.row (by rw [packN_length]; omega)
          have c0 := hWl.c0
          have c1 := hWl.c1
          have f1 := hWl.f 1
          have hcg := hWl.cg (l - 1) (by rw [packN_length]; omega)
          have hfg := hWl.fg (l - 1)
          rw [packN_length] at c0
          have ex : (packN Bc l)[l - 1]'(by rw [packN_length]; omega) = byteOf Bc (l - 1) := by simp [packN]
          rw [ex] at hcg
          have HM := hM
          clear ex hlc hcm hgp
          have hne : True := trivial
          by_cases hrk : (k : Int) < 8 * (l : Int) - Bc.length
          · skip
            go_quiet (fail)
            go_wp2
            go_quiet (fail)
            go_wp2
            go_region
            rw [put_byte0 Bc n l k hn hc01 hl0 hl1 (by omega)]
            generalize hw2 : World.setCell _ _ _ = w2
            have hW2 : Wr w2 p (some ⟨g, 0, none⟩) cap2 ((packN Bc l).set (l - 1) (byteOf Bc (l - 1) + n % 2 ^ k * 2 ^ (8 * l - Bc.length - k))) Bc.length := by rw [← hw2]; exact (hWl.drewN _).setByte (l - 1) _
            have d1 := hW2.c1
            have e1 := hW2.f 1
            have HW2 : Hid _ := hw2
            clear hw2 c0 c1 f1 hcg hfg hne hW2
            go_wp2
            go_roundw
            case rel =>
              have hw2 := HW2.out
              subst hw2
              refine ⟨0, some ⟨g, 0, none⟩, Bc ++ bitsOf n k, by omega, by go_num, ?_, hc01.append (bitsOf_01 _ _), ?_, ?_, HM⟩
              · exact WrB.step (hWl.drewN _) hl0 hl1 h0 (by omega) n _ (by omega)
              · have := HE.out
                simpa [bitsOf] using this
              · exact ((hS.drewN _).setCell _ _ (footrow hM)).setCell _ _ (.inl (.inl rfl))
            case measure => simp [intOf]; omega
          · skip
            go_quiet (fail)
            go_wp2
            go_quiet (fail)
            go_wp2
            go_region
            rw [put_byte1 Bc n l (k - (8 * l - Bc.length)) hn hc01 hl0 hl1 (by omega)]
            generalize hw2 : World.setCell _ _ _ = w2
            have hW2 : Wr w2 p (some ⟨g, 0, none⟩) cap2 ((packN Bc l).set (l - 1) (byteOf Bc (l - 1) + n / 2 ^ (k - (8 * l - Bc.length)) % 2 ^ (8 * l - Bc.length))) Bc.length := by rw [← hw2]; exact (hWl.drewN _).setByte (l - 1) _
            have d1 := hW2.c1
            have e1 := hW2.f 1
            have HW2 : Hid _ := hw2
            clear hw2 c0 c1 f1 hcg hfg hne hW2
            go_wp2
            go_roundw
            case rel =>
              have hw2 := HW2.out
              subst hw2
              refine ⟨k - (8 * l - Bc.length), some ⟨g, 0, none⟩, Bc ++ bitsOf (n / 2 ^ (k - (8 * l - Bc.length))) (8 * l - Bc.length), by omega, by go_num, ?_, hc01.append (bitsOf_01 _ _), ?_, ?_, HM⟩
              · exact WrB.step1 (hWl.drewN _) hl0 hl1 hl2 (n / 2 ^ (k - (8 * l - Bc.length))) _ (by omega)
              · have := HE.out
                rw [List.append_assoc, ← bitsOf_add, show 8 * l - Bc.length + (k - (8 * l - Bc.length)) = k from by omega]
                exact this
              · exact ((hS.drewN _).setCell _ _ (footrow hM)).setCell _ _ (.inl (.inl rfl))
            case measure => simp [intOf]; omega
      · have hl0 : 0 < (pack Bc).length := by omega
        have hl1 : 8 * (pack Bc).length ≤ Bc.length + 8 := by omega
        have hl2 : Bc.length < 8 * (pack Bc).length := by omega
        have hWl : Wr wr p ao' cap (packN Bc (pack Bc).length) Bc.length := by rw [hpl]; exact hW
        generalize hL : (pack Bc).length = l at *
        clear hpl
        obtain ⟨g, rfl, hgp, hglt, hlc, hcm⟩ := hWl.row (by rw [packN_length]; omega)
        have c0 := hWl.c0
        have c1 := hWl.c1
        have f1 := hWl.f 1
        have hcg := hWl.cg (l - 1) (by rw [packN_length]; omega)
        have hfg := hWl.fg (l - 1)
        rw [packN_length] at c0
        have ex : (packN Bc l)[l - 1]'(by rw [packN_length]; omega) = byteOf Bc (l - 1) := by simp [packN]
        rw [ex] at hcg
        have HM := hM
        have hne : ((Bc.length : Int) == 8 * (l : Int)) = false := by simp; omega
        clear hfull hL ex hW hlc hcm hgp
        by_cases hrk : (k : Int) < 8 * (l : Int) - Bc.length
        · go_wp2
          go_quiet (fail)
          go_wp2
          go_quiet (fail)
          go_wp2
          go_quiet (fail)
          go_wp2
          go_region
          rw [put_byte0 Bc n l k hn hc01 hl0 hl1 (by omega)]
          generalize hw2 : World.setCell _ _ _ = w2
          have hW2 : Wr w2 p (some ⟨g, 0, none⟩) cap ((packN Bc l).set (l - 1) (byteOf Bc (l - 1) + n % 2 ^ k * 2 ^ (8 * l - Bc.length - k))) Bc.length := by rw [← hw2]; exact (hWl.drewN _).setByte (l - 1) _
          have d1 := hW2.c1
          have e1 := hW2.f 1
          have HW2 : Hid _ := hw2
          clear hw2 c0 c1 f1 hcg hfg hne hW2
          go_wp2
          go_roundw
          case rel =>
            have hw2 := HW2.out
            subst hw2
            refine ⟨0, some ⟨g, 0, none⟩, Bc ++ bitsOf n k, by omega, by go_num, ?_, hc01.append (bitsOf_01 _ _), ?_, ?_, HM⟩
            · exact WrB.step (hWl.drewN _) hl0 hl1 h0 (by omega) n _ (by omega)
            · have := HE.out
              simpa [bitsOf] using this
            · exact ((hS.drewN _).setCell _ _ (footrow hM)).setCell _ _ (.inl (.inl rfl))
          case measure => simp [intOf]; omega
        · go_wp2
          go_quiet (fail)
          go_wp2
          go_quiet (fail)
          go_wp2
          go_quiet (fail)
          go_wp2
          go_region
          rw [put_byte1 Bc n l (k - (8 * l - Bc.length)) hn hc01 hl0 hl1 (by omega)]
          generalize hw2 : World.setCell _ _ _ = w2
          have hW2 : Wr w2 p (some ⟨g, 0, none⟩) cap ((packN Bc l).set (l - 1) (byteOf Bc (l - 1) + n / 2 ^ (k - (8 * l - Bc.length)) % 2 ^ (8 * l - Bc.length))) Bc.length := by rw [← hw2]; exact (hWl.drewN _).setByte (l - 1) _
          have d1 := hW2.c1
          have e1 := hW2.f 1
          have HW2 : Hid _ := hw2
          clear hw2 c0 c1 f1 hcg hfg hne hW2
          go_wp2
          go_roundw
          case rel =>
            have hw2 := HW2.out
            subst hw2
            refine ⟨k - (8 * l - Bc.length), some ⟨g, 0, none⟩, Bc ++ bitsOf (n / 2 ^ (k - (8 * l - Bc.length))) (8 * l - Bc.length), by omega, by go_num, ?_, hc01.append (bitsOf_01 _ _), ?_, ?_, HM⟩
            · exact WrB.step1 (hWl.drewN _) hl0 hl1 hl2 (n / 2 ^ (k - (8 * l - Bc.length))) _ (by omega)
            · have := HE.out
              rw [List.append_assoc, ← bitsOf_add, show 8 * l - Bc.length + (k - (8 * l - Bc.length)) = k from by omega]
              exact this
            · exact ((hS.drewN _).setCell _ _ (footrow hM)).setCell _ _ (.inl (.inl rfl))
          case measure => simp [intOf]; omega
    · obtain rfl : k = 0 := by omega
      go_wp2
      go_end0
      refine ⟨rfl, ao', ⟨cap, ?_⟩, hS, hM⟩
      have := HE.out
      simp only [bitsOf, List.append_nil] at this
      rw [← this]
      exact hW
end Go.Proofs.YtfmpiidnemhijaaDoor
