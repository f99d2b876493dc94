/- Own text: what the machine's and, or and shifts make of numbers, in the spelling in which the walk shows them. It speaks of no program. the walk of the writer's inner 'put': the r lowest bits of n are written behind what was there, and nothing else in memory turns. the contracts of the writer's calls. -/
import Derived.WalkKit
import Derived.Laws.Bits64
import Derived.Laws.BitsAllLaws
import Derived.Test.YtkhdkmdiblomhaaG1x
import Derived.Test.YtkhdkmdiblomhaaRows
import Derived.Test.YtkhdkmdiblomhaaWriter
import Derived.WalkLawsBesides
import Derived.RegionTactic
import Derived.Deep.QuietTactic
import Derived.BigQuiet
import Derived.Outline
namespace Go.Proofs.Ytkhdkmdiblomhaa
open Go.RowKit
set_option linter.unusedSimpArgs false
set_option linter.unusedVariables false


theorem pow_le_of (k m : Nat) (h : k ≤ m) : (2 : Nat) ^ k ≤ 2 ^ m := Nat.pow_le_pow_right (by decide) h

/-- 'n & (1<<k - 1)'. -/
theorem mask_u64 (n k : Nat) (hn : n < 18446744073709551616) (hk : k ≤ 63) :
    bits BinOp.and IntKind.u64 (n : Int) (IntKind.u64.wrap (IntKind.u64.wrap (2 ^ k) - 1)) = ((n % 2 ^ k : Nat) : Int) := by
  have h1 : (2 : Nat) ^ k ≤ 2 ^ 63 := pow_le_of k 63 hk
  have h0 : 0 < (2 : Nat) ^ k := Nat.two_pow_pos k
  have e1 : ((2 : Int) ^ k) = ((2 ^ k : Nat) : Int) := by simp
  have e : IntKind.u64.wrap (IntKind.u64.wrap (2 ^ k) - 1) = ((2 ^ k - 1 : Nat) : Int) := by
    rw [IntKind.wrap_u64, IntKind.wrap_u64, e1]
    omega
  rw [e, u64_and_nat n (2 ^ k - 1) hn (by omega), Nat.and_two_pow_sub_one_eq_mod]

/-- 'b |= byte(part << j)', part of k bits, where b has nothing in its k + j lowest bits. -/
theorem or_u8 (x part k j : Nat) (q : Nat) (hx : x = q * 2 ^ (k + j)) (hx2 : x < 256) (hp : part < 2 ^ k) (hkj : k + j ≤ 8) :
    bits BinOp.or IntKind.u8 (x : Int) (IntKind.u64.wrap ((part : Int) * 2 ^ j) % 256) = ((x + part * 2 ^ j : Nat) : Int) := by
  have h1 : part * 2 ^ j < 2 ^ (k + j) := by
    rw [Nat.pow_add]
    exact Nat.mul_lt_mul_of_pos_right hp (Nat.two_pow_pos j)
  have h2 : (2 : Nat) ^ (k + j) ≤ 2 ^ 8 := pow_le_of _ 8 hkj
  have e1 : (part : Int) * 2 ^ j = ((part * 2 ^ j : Nat) : Int) := by simp
  have e : IntKind.u64.wrap ((part : Int) * 2 ^ j) % 256 = ((part * 2 ^ j : Nat) : Int) := by
    rw [IntKind.wrap_u64, e1]
    omega
  rw [e, u8_or_nat _ _ hx2 (by omega), nat_join (k + j) x _ (by rw [hx]; simp) h1]

theorem i64_and7 (n : Int) : bits BinOp.and IntKind.i64 n 7 = n % 8 := by
  show IntKind.i64.wrap ((BitVec.ofInt 64 n &&& BitVec.ofInt 64 7).toNat : Int) = _
  rw [BitVec.toNat_and, BitVec.toNat_ofInt, show (BitVec.ofInt 64 7).toNat = 2 ^ 3 - 1 from rfl, Nat.and_two_pow_sub_one_eq_mod, IntKind.wrap_i64]
  omega

/-- 'n<<t | next & (1<<t - 1)'. -/
theorem or_u64 (x y t : Nat) (hx : x * 2 ^ t < 18446744073709551616) (hy : y < 18446744073709551616) (ht : t ≤ 63) :
    bits BinOp.or IntKind.u64 (IntKind.u64.wrap ((x : Int) * 2 ^ t)) (bits BinOp.and IntKind.u64 (y : Int) (IntKind.u64.wrap (IntKind.u64.wrap (2 ^ t) - 1))) = ((x * 2 ^ t + y % 2 ^ t : Nat) : Int) := by
  have e : IntKind.u64.wrap ((x : Int) * 2 ^ t) = ((x * 2 ^ t : Nat) : Int) := by
    have e1 : (x : Int) * 2 ^ t = ((x * 2 ^ t : Nat) : Int) := by simp
    rw [IntKind.wrap_u64, e1]; omega
  have hp : y % 2 ^ t < 2 ^ t := Nat.mod_lt _ (Nat.two_pow_pos t)
  have h63 : (2 : Nat) ^ t ≤ 2 ^ 63 := pow_le_of t 63 ht
  rw [e, mask_u64 y t hy ht, u64_or_nat _ _ hx (by omega), nat_join t _ _ (by simp) hp]
end Go.Proofs.Ytkhdkmdiblomhaa

namespace Go.Proofs.Ytkhdkmdiblomhaa
open Go.RowKit
set_option linter.unusedSimpArgs false
set_option linter.unusedVariables false


theorem Try.info5 : (Try.prog.info? 5).map (fun i => (i.zero, i.size, i.bytes)) = some (some (.int .u8 0), 1, 1) := by kernel_rfl

/-- The stored byte, as the walk spells it. -/
theorem put_byte (B : List Nat) (n l k t : Nat) (hn : n < 18446744073709551616) (h01 : Bits01 B) (h0 : 0 < l) (h1 : 8 * l ≤ B.length + 8) (h2 : B.length + t ≤ 8 * l) :
    bits BinOp.or IntKind.u8 ((byteOf B (l - 1) : Nat) : Int) (IntKind.u64.wrap (bits BinOp.and IntKind.u64 ((n / 2 ^ k : Nat) : Int) (IntKind.u64.wrap (IntKind.u64.wrap (2 ^ t) - 1)) * 2 ^ (8 * l - B.length - t)) % 256)
      = ((byteOf B (l - 1) + (n / 2 ^ k) % 2 ^ t * 2 ^ (8 * l - B.length - t) : Nat) : Int) := by
  have hd : n / 2 ^ k < 18446744073709551616 := Nat.lt_of_le_of_lt (Nat.div_le_self _ _) hn
  rw [mask_u64 _ t hd (by omega)]
  obtain ⟨q, hq⟩ := byteOf_room B (l - 1) (by omega) (by omega)
  exact or_u8 _ _ t _ q (by rw [hq]; congr 2; omega) (byteOf_lt B h01 _) (Nat.mod_lt _ (Nat.two_pow_pos t)) (by omega)

theorem put_byte0 (B : List Nat) (n l t : Nat) (hn : n < 18446744073709551616) (h01 : Bits01 B) (h0 : 0 < l) (h1 : 8 * l ≤ B.length + 8) (h2 : B.length + t ≤ 8 * l) :
    bits BinOp.or IntKind.u8 ((byteOf B (l - 1) : Nat) : Int) (IntKind.u64.wrap (bits BinOp.and IntKind.u64 (n : Int) (IntKind.u64.wrap (IntKind.u64.wrap (2 ^ t) - 1)) * 2 ^ (8 * l - B.length - t)) % 256)
      = ((byteOf B (l - 1) + n % 2 ^ t * 2 ^ (8 * l - B.length - t) : Nat) : Int) := by
  have h := put_byte B n l 0 t hn h01 h0 h1 h2
  simpa using h

theorem put_byte1 (B : List Nat) (n l k : Nat) (hn : n < 18446744073709551616) (h01 : Bits01 B) (h0 : 0 < l) (h1 : 8 * l ≤ B.length + 8) (h2 : B.length ≤ 8 * l) :
    bits BinOp.or IntKind.u8 ((byteOf B (l - 1) : Nat) : Int) (IntKind.u64.wrap (bits BinOp.and IntKind.u64 ((n : Int) / 2 ^ k) (IntKind.u64.wrap (IntKind.u64.wrap (2 ^ (8 * l - B.length)) - 1))) % 256)
      = ((byteOf B (l - 1) + n / 2 ^ k % 2 ^ (8 * l - B.length) : Nat) : Int) := by
  have h := put_byte B n l k (8 * l - B.length) hn h01 h0 h1 (by omega)
  simpa using h

theorem cell_new (w : World) (v : Value) (t : TypeId) : (w.alloc (.cells #[v] t)).cell? ((Addr.mk w.heap.size 0 none).add 0) = some v := by
  have h : (Addr.mk w.heap.size 0 none).add 0 = ⟨w.heap.size, 0, none⟩ := by simp [Addr.add]
  rw [h]
  simp only [World.cell?, heap_alloc_new]
  rfl

theorem footrow {n g p : Nat} {ao : Option Addr} {j : Nat} (h : Moved n ao (some ⟨g, 0, none⟩)) : foot p ao (Addr.mk g j none).block ∨ n ≤ (Addr.mk g j none).block := by
  rcases h g rfl with h1 | h1
  · exact .inl (.inr h1)
  · exact .inr h1

set_option maxRecDepth 20000 in
set_option maxHeartbeats 1600000 in
theorem put_spec (p n r : Nat) (hn : n < 18446744073709551616) (hr : r ≤ 64) (w : World) (ao : Option Addr) (B : List Nat) (h01 : Bits01 B) (hB : B.length ≤ 10000000000000) (hw : WrB w p ao B) :
    Calls Try.prog 54 #[.pointer (some ⟨p, 0, none⟩), .int .u64 (n : Int), .int .i64 (r : Int)] w fun e w' =>
      e = .returned (.tuple #[]) ∧ ∃ ao', WrB w' p ao' (B ++ bitsOf n r) ∧ Stays (foot p ao) w w' ∧ Moved w.heap.size ao ao' := by
  obtain ⟨i0, hi, hz0, hz1, hz2⟩ := info_parts Try.info5
  go_enter Try.func54, Try.ntmps54
  go_wp2
  go_loopw [2] (fun t wr => ∃ (k : Nat) (ao' : Option Addr) (Bc : List Nat), k ≤ r ∧ t = .int .i64 (k : Int) ∧ WrB wr p ao' Bc ∧ Bits01 Bc ∧ Bc ++ bitsOf n k = B ++ bitsOf n r ∧ Stays (foot p ao) w wr ∧ Moved w.heap.size ao ao') (fun t _ => (intOf t).toNat)
  case atStart => exact ⟨r, ao, B, Nat.le_refl _, rfl, hw, h01, rfl, Stays.refl _ _, Moved.refl _ _⟩
  case round =>
    obtain ⟨k, ao', Bc, hk, rfl, ⟨cap, hW⟩, hc01, heq, hS, hM⟩ := hrel
    have hlen : Bc.length + k = B.length + r := by have := congrArg List.length heq; simpa [bitsOf_length] using this
    have hbig : Bc.length ≤ 10000000000064 := by omega
    have HE : Hid (Bc ++ bitsOf n k = B ++ bitsOf n r) := heq
    have hpl := pack_length Bc
    clear heq hlen hB hw
    by_cases h0 : 0 < k
    · by_cases hfull : Bc.length = 8 * (pack Bc).length
      · have hpf := packN_full Bc hfull
        generalize hL : (pack Bc).length = l0 at *
        have hne : ((Bc.length : Int) == 8 * (l0 : Int)) = true := by simp; omega
        have a0 := hW.c0
        have a1 := hW.c1
        have b0 := hW.f 0
        rw [hL] at a0
        have hown := hW.own
        rw [hL] at hown
        have hps := hW.lt
        have HP : Hid _ := hpf
        have HL : Hid _ := hL
        have hl40 : l0 ≤ 2000000000000 := by omega
        clear hpf hL hpl
        go_wp2
        go_quiet (fail)
        go_wp2_with (at_builtin; refine wpList_append_mine _ rfl _ _ 49 rfl 5 i0 (.int .u8 0) 1 Try.underlying49 hi hz0 hz1 hz2 rfl ao' cap l0 _ rfl (owns_alloc (owns_drewN hown _) _) ⟨wr.heap.size, 0, none⟩ 1 1 [.int .u8 0] rfl rfl ?ca ?cb ?cc ?cd ?ce)
        case ca =>
          intro j u hj
          match j, hj with
          | 0, hj => simp at hj; subst hj; exact (cell_new (wr.drewN nq) (.int .u8 0) 5)
        case cb => intro u hu; simp at hu; subst hu; rfl
        case cc => unfold maxLen; omega
        case cd => omega
        case ce =>
          intro ao2 cap2 w1 hown2 hgr hmv
          obtain ⟨l, hl⟩ : ∃ l, l = l0 + 1 := ⟨_, rfl⟩
          have hWa : Wr ((wr.drewN nq).alloc (.cells #[.int .u8 0] 5)) p ao' cap (pack Bc) Bc.length := (hW.drewN nq).kept (Below.heap_alloc _ _ _ hps) (fun b hb => Below.heap_alloc _ _ _ (hW.blocks b hb))
          have q0 : w1.cell? ⟨p, 0, none⟩ = some (.slice ao' l0 cap) := by
            rw [World.cell?_of_block (hgr.block p hWa.lt (fun e => hW.ne e.symm)), hWa.c0, HL.out]
          have qf : w1.frozen? ⟨p, 0, none⟩ = false := by
            rw [World.frozen?_of_block (hgr.block p hWa.lt (fun e => hW.ne e.symm)), hWa.f 0]
          have hWx : Wr (w1.setCell ⟨p, 0, none⟩ (.slice ao2 l cap2)) p ao2 cap2 (packN Bc l) Bc.length := by
            have e : packN Bc l = pack Bc ++ [0] := by rw [hl]; exact HP.out
            refine hWa.setSlice hgr (by simpa using hmv) l (by rw [packN_length]) ?_
            rw [e, byteVals_append, hl]
            exact hown2
          have hSx : Stays (foot p ao) w (w1.setCell ⟨p, 0, none⟩ (.slice ao2 l cap2)) := by
            have s1 : Stays (foot p ao') wr w1 := by
              refine Stays.trans (T := foot p ao') (b := (wr.drewN nq).alloc (.cells #[.int .u8 0] 5)) ?_ (Stays.of_grown hgr (fun b hb => .inr hb)) (fun i _ h => h)
              exact ⟨rfl, rfl, rfl, by simp, fun i hi _ => Below.heap_alloc _ _ _ hi⟩
            exact (hS.foot s1 hM).setCell _ _ (.inl (.inl rfl))
          have hMx : Moved w.heap.size ao ao2 := hM.trans hmv (by have := hS.size; simp; omega)
          rw [← hl]
          have hl0 : 0 < l := by omega
          have hl1 : 8 * l ≤ Bc.length + 8 := by omega
          have hl2 : Bc.length < 8 * l := by omega
          clear hl hown2 hgr hmv hWa hfull hne a0 a1 b0 hown hW HP HL hS hM
          go_wp2
          generalize hwx : World.setCell _ _ _ = wx at *
          clear hwx q0 qf
          have hS := hSx
          have hM := hMx
          have hWl := hWx
          clear hSx hMx hWx
          obtain ⟨g, rfl, hgp, hglt, hlc, hcm⟩ := hWl.row (by rw [packN_length]; omega)
          have c0 := hWl.c0
          have c1 := hWl.c1
          have f1 := hWl.f 1
          have hcg := hWl.cg (l - 1) (by rw [packN_length]; omega)
          have hfg := hWl.fg (l - 1)
          rw [packN_length] at c0
          have ex : (packN Bc l)[l - 1]'(by rw [packN_length]; omega) = byteOf Bc (l - 1) := by simp [packN]
          rw [ex] at hcg
          have HM := hM
          clear ex hlc hcm hgp
          have hne : True := trivial
          by_cases hrk : (k : Int) < 8 * (l : Int) - Bc.length
          · skip
            go_quiet (fail)
            go_wp2
            go_quiet (fail)
            go_wp2
            go_region
            rw [put_byte0 Bc n l k hn hc01 hl0 hl1 (by omega)]
            generalize hw2 : World.setCell _ _ _ = w2
            have hW2 : Wr w2 p (some ⟨g, 0, none⟩) cap2 ((packN Bc l).set (l - 1) (byteOf Bc (l - 1) + n % 2 ^ k * 2 ^ (8 * l - Bc.length - k))) Bc.length := by rw [← hw2]; exact (hWl.drewN _).setByte (l - 1) _
            have d1 := hW2.c1
            have e1 := hW2.f 1
            have HW2 : Hid _ := hw2
            clear hw2 c0 c1 f1 hcg hfg hne hW2
            go_wp2
            go_roundw
            case rel =>
              have hw2 := HW2.out
              subst hw2
              refine ⟨0, some ⟨g, 0, none⟩, Bc ++ bitsOf n k, by omega, by go_num, ?_, hc01.append (bitsOf_01 _ _), ?_, ?_, HM⟩
              · exact WrB.step (hWl.drewN _) hl0 hl1 h0 (by omega) n _ (by omega)
              · have := HE.out
                simpa [bitsOf] using this
              · exact ((hS.drewN _).setCell _ _ (footrow hM)).setCell _ _ (.inl (.inl rfl))
            case measure => simp [intOf]; omega
          · skip
            go_quiet (fail)
            go_wp2
            go_quiet (fail)
            go_wp2
            go_region
            rw [put_byte1 Bc n l (k - (8 * l - Bc.length)) hn hc01 hl0 hl1 (by omega)]
            generalize hw2 : World.setCell _ _ _ = w2
            have hW2 : Wr w2 p (some ⟨g, 0, none⟩) cap2 ((packN Bc l).set (l - 1) (byteOf Bc (l - 1) + n / 2 ^ (k - (8 * l - Bc.length)) % 2 ^ (8 * l - Bc.length))) Bc.length := by rw [← hw2]; exact (hWl.drewN _).setByte (l - 1) _
            have d1 := hW2.c1
            have e1 := hW2.f 1
            have HW2 : Hid _ := hw2
            clear hw2 c0 c1 f1 hcg hfg hne hW2
            go_wp2
            go_roundw
            case rel =>
              have hw2 := HW2.out
              subst hw2
              refine ⟨k - (8 * l - Bc.length), some ⟨g, 0, none⟩, Bc ++ bitsOf (n / 2 ^ (k - (8 * l - Bc.length))) (8 * l - Bc.length), by omega, by go_num, ?_, hc01.append (bitsOf_01 _ _), ?_, ?_, HM⟩
              · exact WrB.step1 (hWl.drewN _) hl0 hl1 hl2 (n / 2 ^ (k - (8 * l - Bc.length))) _ (by omega)
              · have := HE.out
                rw [List.append_assoc, ← bitsOf_add, show 8 * l - Bc.length + (k - (8 * l - Bc.length)) = k from by omega]
                exact this
              · exact ((hS.drewN _).setCell _ _ (footrow hM)).setCell _ _ (.inl (.inl rfl))
            case measure => simp [intOf]; omega
      · have hl0 : 0 < (pack Bc).length := by omega
        have hl1 : 8 * (pack Bc).length ≤ Bc.length + 8 := by omega
        have hl2 : Bc.length < 8 * (pack Bc).length := by omega
        have hWl : Wr wr p ao' cap (packN Bc (pack Bc).length) Bc.length := by rw [hpl]; exact hW
        generalize hL : (pack Bc).length = l at *
        clear hpl
        obtain ⟨g, rfl, hgp, hglt, hlc, hcm⟩ := hWl.row (by rw [packN_length]; omega)
        have c0 := hWl.c0
        have c1 := hWl.c1
        have f1 := hWl.f 1
        have hcg := hWl.cg (l - 1) (by rw [packN_length]; omega)
        have hfg := hWl.fg (l - 1)
        rw [packN_length] at c0
        have ex : (packN Bc l)[l - 1]'(by rw [packN_length]; omega) = byteOf Bc (l - 1) := by simp [packN]
        rw [ex] at hcg
        have HM := hM
        have hne : ((Bc.length : Int) == 8 * (l : Int)) = false := by simp; omega
        clear hfull hL ex hW hlc hcm hgp
        by_cases hrk : (k : Int) < 8 * (l : Int) - Bc.length
        · go_wp2
          go_quiet (fail)
          go_wp2
          go_quiet (fail)
          go_wp2
          go_quiet (fail)
          go_wp2
          go_region
          rw [put_byte0 Bc n l k hn hc01 hl0 hl1 (by omega)]
          generalize hw2 : World.setCell _ _ _ = w2
          have hW2 : Wr w2 p (some ⟨g, 0, none⟩) cap ((packN Bc l).set (l - 1) (byteOf Bc (l - 1) + n % 2 ^ k * 2 ^ (8 * l - Bc.length - k))) Bc.length := by rw [← hw2]; exact (hWl.drewN _).setByte (l - 1) _
          have d1 := hW2.c1
          have e1 := hW2.f 1
          have HW2 : Hid _ := hw2
          clear hw2 c0 c1 f1 hcg hfg hne hW2
          go_wp2
          go_roundw
          case rel =>
            have hw2 := HW2.out
            subst hw2
            refine ⟨0, some ⟨g, 0, none⟩, Bc ++ bitsOf n k, by omega, by go_num, ?_, hc01.append (bitsOf_01 _ _), ?_, ?_, HM⟩
            · exact WrB.step (hWl.drewN _) hl0 hl1 h0 (by omega) n _ (by omega)
            · have := HE.out
              simpa [bitsOf] using this
            · exact ((hS.drewN _).setCell _ _ (footrow hM)).setCell _ _ (.inl (.inl rfl))
          case measure => simp [intOf]; omega
        · go_wp2
          go_quiet (fail)
          go_wp2
          go_quiet (fail)
          go_wp2
          go_quiet (fail)
          go_wp2
          go_region
          rw [put_byte1 Bc n l (k - (8 * l - Bc.length)) hn hc01 hl0 hl1 (by omega)]
          generalize hw2 : World.setCell _ _ _ = w2
          have hW2 : Wr w2 p (some ⟨g, 0, none⟩) cap ((packN Bc l).set (l - 1) (byteOf Bc (l - 1) + n / 2 ^ (k - (8 * l - Bc.length)) % 2 ^ (8 * l - Bc.length))) Bc.length := by rw [← hw2]; exact (hWl.drewN _).setByte (l - 1) _
          have d1 := hW2.c1
          have e1 := hW2.f 1
          have HW2 : Hid _ := hw2
          clear hw2 c0 c1 f1 hcg hfg hne hW2
          go_wp2
          go_roundw
          case rel =>
            have hw2 := HW2.out
            subst hw2
            refine ⟨k - (8 * l - Bc.length), some ⟨g, 0, none⟩, Bc ++ bitsOf (n / 2 ^ (k - (8 * l - Bc.length))) (8 * l - Bc.length), by omega, by go_num, ?_, hc01.append (bitsOf_01 _ _), ?_, ?_, HM⟩
            · exact WrB.step1 (hWl.drewN _) hl0 hl1 hl2 (n / 2 ^ (k - (8 * l - Bc.length))) _ (by omega)
            · have := HE.out
              rw [List.append_assoc, ← bitsOf_add, show 8 * l - Bc.length + (k - (8 * l - Bc.length)) = k from by omega]
              exact this
            · exact ((hS.drewN _).setCell _ _ (footrow hM)).setCell _ _ (.inl (.inl rfl))
          case measure => simp [intOf]; omega
    · obtain rfl : k = 0 := by omega
      go_wp2
      go_end0
      refine ⟨rfl, ao', ⟨cap, ?_⟩, hS, hM⟩
      have := HE.out
      simp only [bitsOf, List.append_nil] at this
      rw [← this]
      exact hW
end Go.Proofs.Ytkhdkmdiblomhaa

namespace Go.Proofs.Ytkhdkmdiblomhaa
open Go.RowKit
set_option linter.unusedSimpArgs false
set_option linter.unusedVariables false


/-- 'New': a writer of nothing in a new block. -/
theorem new_spec (w : World) : Calls Try.prog 8 #[] w fun e w' => e = .returned (.pointer (some ⟨w.heap.size, 0, none⟩)) ∧ WrB w' w.heap.size none [] ∧ w' = w.alloc (.cells #[.slice none 0 0, .int .i64 0] 51) := by
  go_enter Try.func8, Try.ntmps8
  go_wp2
  go_ret
  refine ⟨rfl, ⟨0, ?_, World.ownsRow_nil _ _ _ _, by simp [blockOf]⟩, rfl⟩
  rw [heap_alloc_new]
  rfl

theorem len_spec (p : Nat) (w : World) (ao : Option Addr) (B : List Nat) (hw : WrB w p ao B) : Calls Try.prog 10 #[.pointer (some ⟨p, 0, none⟩)] w fun e w' => e = .returned (.int .i64 (B.length : Int)) ∧ w' = w := by
  obtain ⟨cap, hW⟩ := hw
  have c1 := hW.c1
  go_enter Try.func10, Try.ntmps10
  go_wp2
  go_ret
  exact ⟨rfl, rfl⟩

theorem len_none (w : World) : Calls Try.prog 10 #[.pointer none] w fun e w' => e = .returned (.int .i64 0) ∧ w' = w := by
  go_enter Try.func10, Try.ntmps10
  go_wp2
  go_ret
  exact ⟨rfl, rfl⟩

/-- The text that bytes make. -/
def textOf (bs : List Nat) : ByteArray := ⟨(bs.map fun b => UInt8.ofNat b).toArray⟩

theorem textOf_eq (bs : List Nat) : textOf bs = strOfNums (bs.map fun (b : Nat) => (b : Int)) := by
  unfold textOf strOfNums
  rw [List.map_map]
  congr 2

theorem conv_row {w : World} {p : Nat} {ao : Option Addr} {cap : Nat} {bs : List Nat} {cnt : Nat} (h : Wr w p ao cap bs cnt) :
    (convert 49 9 (.slice ao bs.length cap)).run Try.prog w = .ok (.string (textOf bs)) w := by
  by_cases h0 : 0 < bs.length
  · obtain ⟨g, rfl, _⟩ := h.row h0
    rw [textOf_eq]
    refine run_convert_bytes_arg w 49 5 Try.underlying49 Try.underlying5 g 0 bs.length cap _ (by simp) (fun i hi => ?_) 9 Try.underlying9
    rw [Nat.zero_add, h.cg i hi]
    simp [List.getD, hi]
  · have hb : bs = [] := List.eq_nil_of_length_eq_zero (by omega)
    subst hb
    cases ao with
    | none => exact run_convert_bytes_nil w 49 5 Try.underlying49 Try.underlying5 _ _ 9 Try.underlying9
    | some a =>
      obtain ⟨ao1, cap1, hv, _, _, _, hs⟩ := owns_shape h.own
      simp only [Value.slice.injEq, true_and] at hv
      obtain ⟨rfl, rfl⟩ := hv
      obtain ⟨g, rfl⟩ : ∃ g, a = ⟨g, 0, none⟩ := ⟨_, (hs a rfl).1⟩
      exact run_convert_bytes_arg w 49 5 Try.underlying49 Try.underlying5 g 0 0 cap [] rfl (fun i hi => by omega) 9 Try.underlying9

theorem bytes_none (w : World) : Calls Try.prog 12 #[.pointer none] w fun e w' => e = .returned (.string ⟨#[]⟩) ∧ w' = w := by
  go_enter Try.func12, Try.ntmps12
  go_wp2
  go_ret
  exact ⟨rfl, rfl⟩

theorem bytes_spec (p : Nat) (w : World) (ao : Option Addr) (B : List Nat) (h01 : Bits01 B) (hB : B.length ≤ 10000000000000) (hw : WrB w p ao B) : Calls Try.prog 12 #[.pointer (some ⟨p, 0, none⟩)] w fun e w' => e = .returned (.string (textOf (pack B))) ∧ w' = w := by
  obtain ⟨cap, hW⟩ := hw
  have hcv := conv_row hW
  have c0 := hW.c0
  clear hW hB
  go_enter Try.func12, Try.ntmps12
  go_wp2
  go_ret
  exact ⟨rfl, rfl⟩

theorem put_none (n : Int) (k : Int) (w : World) : Calls Try.prog 34 #[.pointer none, .int .u64 n, .int .i64 k] w fun e w' => e = .returned (.int .i64 1) ∧ w' = w := by
  go_enter Try.func34, Try.ntmps34
  go_wp2
  go_ret
  exact ⟨rfl, rfl⟩

theorem put_ok (p n k : Nat) (hk : k ≤ 64) (hn : n < 2 ^ k) (w : World) (ao : Option Addr) (B : List Nat) (h01 : Bits01 B) (hB : B.length ≤ 10000000000000) (hw : WrB w p ao B) :
    Calls Try.prog 34 #[.pointer (some ⟨p, 0, none⟩), .int .u64 (n : Int), .int .i64 (k : Int)] w fun e w' =>
      e = .returned (.int .i64 0) ∧ ∃ ao', WrB w' p ao' (B ++ bitsOf n k) ∧ Stays (foot p ao) w w' ∧ Moved w.heap.size ao ao' := by
  have h64 : n < 18446744073709551616 := Nat.lt_of_lt_of_le hn (pow_le_of k 64 hk)
  have hz : (n : Int) / 2 ^ k = 0 := by
    have : n / 2 ^ k = 0 := Nat.div_eq_of_lt hn
    have e : (n : Int) / 2 ^ k = ((n / 2 ^ k : Nat) : Int) := by simp
    rw [e, this]; rfl
  go_enter Try.func34, Try.ntmps34
  go_wp2_with (go_at_call 54; refine (put_spec p n k h64 hk w ao B h01 hB hw).mono ?_; rintro e w' ⟨rfl, ao', h1, h2, h3⟩)
  go_ret
  exact ⟨rfl, ao', h1, h2, h3⟩

theorem put_bad (p : Nat) (n k : Int) (hn : 0 ≤ n) (hn2 : n < 18446744073709551616) (hbad : k < 0 ∨ 64 < k ∨ (0 ≤ k ∧ k ≤ 64 ∧ 2 ^ k.toNat ≤ n)) (w : World) :
    Calls Try.prog 34 #[.pointer (some ⟨p, 0, none⟩), .int .u64 n, .int .i64 k] w fun e w' => e = .returned (.int .i64 11) ∧ w' = w := by
  rcases hbad with h | h | ⟨h1, h2, h3⟩
  · go_enter Try.func34, Try.ntmps34
    go_wp2
    go_ret
    exact ⟨rfl, rfl⟩
  · go_enter Try.func34, Try.ntmps34
    go_wp2
    go_ret
    exact ⟨rfl, rfl⟩
  · have hp : 0 < (2 : Int) ^ k.toNat := Int.pow_pos (by decide)
    have hq : 1 ≤ n / 2 ^ k.toNat := Int.le_ediv_of_mul_le hp (by omega)
    have hz : (n / 2 ^ k.toNat != 0) = true := by simp; omega
    clear hq hp
    go_enter Try.func34, Try.ntmps34
    go_wp2
    go_ret
    exact ⟨rfl, rfl⟩

/-- 'unary': n bits 0 and a bit 1. -/
theorem unary_spec (p n : Nat) (hn : n ≤ 16777216) (w : World) (ao : Option Addr) (B : List Nat) (h01 : Bits01 B) (hB : B.length ≤ 9000000000000) (hw : WrB w p ao B) :
    Calls Try.prog 55 #[.pointer (some ⟨p, 0, none⟩), .int .i64 (n : Int)] w fun e w' =>
      e = .returned (.tuple #[]) ∧ ∃ ao', WrB w' p ao' (B ++ List.replicate n 0 ++ [1]) ∧ Stays (foot p ao) w w' ∧ Moved w.heap.size ao ao' := by
  obtain ⟨i0, hi, hz0, hz1, hz2⟩ := info_parts Try.info5
  obtain ⟨cap, hW⟩ := hw
  have c0 := hW.c0
  have c1 := hW.c1
  have f1 := hW.f 1
  have hpl := pack_length B
  generalize hL : (pack B).length = l at *
  have HP : Hid _ := hpl
  have HL : Hid _ := hL
  have hl8 : 8 * l < B.length + 8 := by omega
  have hl9 : B.length ≤ 8 * l := by omega
  obtain ⟨m, hm⟩ : ∃ m : Nat, l + m = (B.length + n + 7) / 8 := ⟨(B.length + n + 7) / 8 - l, by omega⟩
  have hmi : ((B.length : Int) + (n : Int) + 7) / 8 - (l : Int) = (m : Int) := by omega
  have hml : l + m ≤ 2000000000000 := by omega
  have HM : Hid _ := hm
  have HI : Hid _ := hmi
  clear hpl hL hm hmi
  go_enter Try.func55, Try.ntmps55
  go_wp2
  generalize hwx : World.setCell _ _ _ = wx
  have hWx : Wr wx p ao cap (pack B) (B.length + n) := by
    rw [← hwx]
    have := hW.setCount (B.length + n)
    simpa using this
  have hSx : Stays (foot p ao) w wx := by rw [← hwx]; exact (Stays.refl _ _).setCell _ _ (.inl (.inl rfl))
  have hsz : wx.heap.size = w.heap.size := by rw [← hwx]; simp [World.setCell]
  have HZ : Hid _ := hsz
  clear hwx hsz c0 c1 f1 hW
  have c0 := hWx.c0
  have c1 := hWx.c1
  have b0 := hWx.f 0
  have hown := hWx.own
  rw [HL.out] at c0 hown
  have ei : ((B.length + n : Nat) : Int) = (B.length : Int) + (n : Int) := by omega
  rw [ei] at c1
  clear ei
  go_quiet (fail)
  rw [HI.out]
  go_wp2_with (at_builtin; refine wpList_append_zeros _ rfl _ _ 49 3 rfl 5 i0 (.int .u8 0) 1 Try.underlying49 Try.underlying3 hi hz0 hz1 hz2 rfl rfl ao cap l _ rfl (owns_drewN hown _) m rfl ?cc ?cd ?ce)
  case cc => unfold maxLen; omega
  case cd => omega
  case ce =>
    intro ao2 cap2 w1 hown2 hgr hmv
    have hWd := hWx.drewN nq
    have q0 : w1.cell? ⟨p, 0, none⟩ = some (.slice ao l cap) := by
      rw [World.cell?_of_block (hgr.block p hWd.lt (fun e => hWx.ne e.symm)), hWd.c0, HL.out]
    have qf : w1.frozen? ⟨p, 0, none⟩ = false := by
      rw [World.frozen?_of_block (hgr.block p hWd.lt (fun e => hWx.ne e.symm)), hWd.f 0]
    have hW2 : WrB (w1.setCell ⟨p, 0, none⟩ (.slice ao2 (l + m) cap2)) p ao2 (B ++ List.replicate n 0) := by
      refine ⟨cap2, ?_⟩
      have e : pack (B ++ List.replicate n 0) = pack B ++ List.replicate m 0 := by
        unfold pack
        rw [packN_zeros, List.length_append, List.length_replicate, ← HM.out, ← HP.out]
        exact packN_past B l m hl9
      rw [e, List.length_append, List.length_replicate]
      refine hWd.setSlice hgr (by simpa using hmv) (l + m) (by rw [List.length_append, List.length_replicate, HL.out]) ?_
      rw [byteVals_append, byteVals_zeros]
      exact hown2
    have hS2 : Stays (foot p ao) w (w1.setCell ⟨p, 0, none⟩ (.slice ao2 (l + m) cap2)) := by
      have s1 : Stays (foot p ao) wx w1 := ⟨hgr.os, hgr.tape, hgr.output, hgr.size, fun k hk hs => hgr.block k hk (fun e => hs (.inr e.symm))⟩
      exact (hSx.trans s1 (fun _ _ h => h)).setCell _ _ (.inl (.inl rfl))
    have hM2 : Moved w.heap.size ao ao2 := by
      have := hmv
      simp only [World.heap_drewN, HZ.out] at this
      exact this
    clear hown2 hgr hmv hWd hWx c0 c1 b0 hown hSx
    go_wp2_with (go_at_call 54; refine (put_spec p 1 1 (by decide) (by decide) _ ao2 (B ++ List.replicate n 0) (h01.append (Bits01.zeros n)) (by simp; omega) hW2).mono ?_; rintro e w' ⟨rfl, ao', h1, h2, h3⟩)
    go_end0
    refine ⟨rfl, ao', h1, hS2.foot h2 hM2, hM2.trans h3 ?_⟩
    exact hS2.size

end Go.Proofs.Ytkhdkmdiblomhaa
