/- Own text. -/
import Derived.WalkLawsBesides
import Derived.RegionTactic
import Derived.Deep.QuietTactic
import Derived.BigQuiet
import Derived.Outline
import Derived.Test.YthgpleelpeacjaaGreatDoorRows
import Derived.Test.YthgpleelpeacjaaGreatDoorF2
import Derived.Test.YthgpleelpeacjaaGreatDoorF3
import Derived.Laws.MathBits
set_option linter.unusedSimpArgs false
set_option linter.unusedVariables false
set_option maxRecDepth 20000
set_option maxHeartbeats 12800000
namespace Go.Proofs.YthgpleelpeacjaaGreatDoor
open Go.RowKit
theorem Tryz.info5 : (Tryz.prog.info? 5).map (fun i => (i.zero, i.size, i.bytes)) = some (some (.int .u8 0), 1, 1) := by kernel_rfl
theorem put_byte (B : List Nat) (n l k t : Nat) (hn : n < 18446744073709551616) (h01 : Bits01 B) (h0 : 0 < l) (h1 : 8 * l ≤ B.length + 8) (h2 : B.length + t ≤ 8 * l) :
  bits BinOp.or IntKind.u8 ((byteOf B (l - 1) : Nat) : Int) (IntKind.u64.wrap (bits BinOp.and IntKind.u64 ((n / 2 ^ k : Nat) : Int) (IntKind.u64.wrap (IntKind.u64.wrap (2 ^ t) - 1)) * 2 ^ (8 * l - B.length - t)) % 256)
   = ((byteOf B (l - 1) + (n / 2 ^ k) % 2 ^ t * 2 ^ (8 * l - B.length - t) : Nat) : Int) := by
 have hd : n / 2 ^ k < 18446744073709551616 := Nat.lt_of_le_of_lt (Nat.div_le_self _ _) hn
 rw [mask_u64 _ t hd (by omega)]
 obtain ⟨q, hq⟩ := byteOf_room B (l - 1) (by omega) (by omega)
 exact or_u8 _ _ t _ q (by rw [hq]; congr 2; omega) (byteOf_lt B h01 _) (Nat.mod_lt _ (Nat.two_pow_pos t)) (by omega)
theorem put_byte0 (B : List Nat) (n l t : Nat) (hn : n < 18446744073709551616) (h01 : Bits01 B) (h0 : 0 < l) (h1 : 8 * l ≤ B.length + 8) (h2 : B.length + t ≤ 8 * l) :
  bits BinOp.or IntKind.u8 ((byteOf B (l - 1) : Nat) : Int) (IntKind.u64.wrap (bits BinOp.and IntKind.u64 (n : Int) (IntKind.u64.wrap (IntKind.u64.wrap (2 ^ t) - 1)) * 2 ^ (8 * l - B.length - t)) % 256)
   = ((byteOf B (l - 1) + n % 2 ^ t * 2 ^ (8 * l - B.length - t) : Nat) : Int) := by
 have h := put_byte B n l 0 t hn h01 h0 h1 h2
 simpa using h
theorem put_byte1 (B : List Nat) (n l k : Nat) (hn : n < 18446744073709551616) (h01 : Bits01 B) (h0 : 0 < l) (h1 : 8 * l ≤ B.length + 8) (h2 : B.length ≤ 8 * l) :
  bits BinOp.or IntKind.u8 ((byteOf B (l - 1) : Nat) : Int) (IntKind.u64.wrap (bits BinOp.and IntKind.u64 ((n : Int) / 2 ^ k) (IntKind.u64.wrap (IntKind.u64.wrap (2 ^ (8 * l - B.length)) - 1))) % 256)
   = ((byteOf B (l - 1) + n / 2 ^ k % 2 ^ (8 * l - B.length) : Nat) : Int) := by
 have h := put_byte B n l k (8 * l - B.length) hn h01 h0 h1 (by omega)
 simpa using h
theorem cell_new (w : World) (v : Value) (t : TypeId) : (w.alloc (.cells #[v] t)).cell? ((Addr.mk w.heap.size 0 none).add 0) = some v := by
 have h : (Addr.mk w.heap.size 0 none).add 0 = ⟨w.heap.size, 0, none⟩ := by simp [Addr.add]
 rw [h]
 simp only [World.cell?, heap_alloc_new]
 rfl
theorem footrow {n g p : Nat} {ao : Option Addr} {j : Nat} (h : Moved n ao (some ⟨g, 0, none⟩)) : foot p ao (Addr.mk g j none).block ∨ n ≤ (Addr.mk g j none).block := by
 rcases h g rfl with h1 | h1
 ·exact .inl (.inr h1)
 ·exact .inr h1
theorem put_spec (p n r : Nat) (hn : n < 18446744073709551616) (hr : r ≤ 64) (w : World) (ao : Option Addr) (B : List Nat) (h01 : Bits01 B) (hB : B.length ≤ 10000000000000) (hw : WrB w p ao B) :
  Calls Tryz.prog 107 #[.pointer (some ⟨p, 0, none⟩), .int .u64 (n : Int), .int .i64 (r : Int)] w fun e w' =>
   e = .returned (.tuple #[]) ∧ ∃ ao', WrB w' p ao' (B ++ bitsOf n r) ∧ Stays (foot p ao) w w' ∧ Moved w.heap.size ao ao' := by
 obtain ⟨i0, hi, hz0, hz1, hz2⟩ := info_parts Tryz.info5
 go_enter Tryz.func107, Tryz.ntmps107
 go_wp2
 go_loopw [2] (fun t wr => ∃ (k : Nat) (ao' : Option Addr) (Bc : List Nat), k ≤ r ∧ t = .int .i64 (k : Int) ∧ WrB wr p ao' Bc ∧ Bits01 Bc ∧ Bc ++ bitsOf n k = B ++ bitsOf n r ∧ Stays (foot p ao) w wr ∧ Moved w.heap.size ao ao') (fun t _ => (intOf t).toNat)
 case atStart => exact ⟨r, ao, B, Nat.le_refl _, rfl, hw, h01, rfl, Stays.refl _ _, Moved.refl _ _⟩
 case round =>
  obtain ⟨k, ao', Bc, hk, rfl, ⟨cap, hW⟩, hc01, heq, hS, hM⟩ := hrel
  have hlen : Bc.length + k = B.length + r := by have := congrArg List.length heq; simpa [bitsOf_length] using this
  have hbig : Bc.length ≤ 10000000000064 := by omega
  have HE : Hid (Bc ++ bitsOf n k = B ++ bitsOf n r) := heq
  have hpl := pack_length Bc
  clear heq hlen hB hw
  by_cases h0 : 0 < k
  ·by_cases hfull : Bc.length = 8 * (pack Bc).length
   ·have hpf := packN_full Bc hfull
    generalize hL : (pack Bc).length = l0 at *
    have hne : ((Bc.length : Int) == 8 * (l0 : Int)) = true := by simp; omega
    have a0 := hW.c0
    have a1 := hW.c1
    have b0 := hW.f 0
    rw [hL] at a0
    have hown := hW.own
    rw [hL] at hown
    have hps := hW.lt
    have HP : Hid _ := hpf
    have HL : Hid _ := hL
    have hl40 : l0 ≤ 2000000000000 := by omega
    clear hpf hL hpl
    go_wp2
    go_quiet (fail)
    go_wp2_with (at_builtin; refine wpList_append_mine _ rfl _ _ 103 rfl 5 i0 (.int .u8 0) 1 Tryz.underlying103 hi hz0 hz1 hz2 rfl ao' cap l0 _ rfl (owns_alloc (owns_drewN hown _) _) ⟨wr.heap.size, 0, none⟩ 1 1 [.int .u8 0] rfl rfl ?ca ?cb ?cc ?cd ?ce)
    case ca =>
     intro j u hj
     match j, hj with
     | 0, hj => simp at hj; subst hj; exact (cell_new (wr.drewN nq) (.int .u8 0) 5)
    case cb => intro u hu; simp at hu; subst hu; rfl
    case cc => unfold maxLen; omega
    case cd => omega
    case ce =>
     intro ao2 cap2 w1 hown2 hgr hmv
     obtain ⟨l, hl⟩ : ∃ l, l = l0 + 1 := ⟨_, rfl⟩
     have hWa : Wr ((wr.drewN nq).alloc (.cells #[.int .u8 0] 5)) p ao' cap (pack Bc) Bc.length := (hW.drewN nq).kept (Below.heap_alloc _ _ _ hps) (fun b hb => Below.heap_alloc _ _ _ (hW.blocks b hb))
     have q0 : w1.cell? ⟨p, 0, none⟩ = some (.slice ao' l0 cap) := by
      rw [World.cell?_of_block (hgr.block p hWa.lt (fun e => hW.ne e.symm)), hWa.c0, HL.out]
     have qf : w1.frozen? ⟨p, 0, none⟩ = false := by
      rw [World.frozen?_of_block (hgr.block p hWa.lt (fun e => hW.ne e.symm)), hWa.f 0]
     have hWx : Wr (w1.setCell ⟨p, 0, none⟩ (.slice ao2 l cap2)) p ao2 cap2 (packN Bc l) Bc.length := by
      have e : packN Bc l = pack Bc ++ [0] := by rw [hl]; exact HP.out
      refine hWa.setSlice hgr (by simpa using hmv) l (by rw [packN_length]) ?_
      rw [e, byteVals_append, hl]
      exact hown2
     have hSx : Stays (foot p ao) w (w1.setCell ⟨p, 0, none⟩ (.slice ao2 l cap2)) := by
      have s1 : Stays (foot p ao') wr w1 := by
       refine Stays.trans (T := foot p ao') (b := (wr.drewN nq).alloc (.cells #[.int .u8 0] 5)) ?_ (Stays.of_grown hgr (fun b hb => .inr hb)) (fun i _ h => h)
       exact ⟨rfl, rfl, rfl, by simp, fun i hi _ => Below.heap_alloc _ _ _ hi⟩
      exact (hS.foot s1 hM).setCell _ _ (.inl (.inl rfl))
     have hMx : Moved w.heap.size ao ao2 := hM.trans hmv (by have := hS.size; simp; omega)
     rw [← hl]
     have hl0 : 0 < l := by omega
     have hl1 : 8 * l ≤ Bc.length + 8 := by omega
     have hl2 : Bc.length < 8 * l := by omega
     clear hl hown2 hgr hmv hWa hfull hne a0 a1 b0 hown hW HP HL hS hM
     go_wp2
     generalize hwx : World.setCell _ _ _ = wx at *
     clear hwx q0 qf
     have hS := hSx
     have hM := hMx
     have hWl := hWx
     clear hSx hMx hWx
     obtain ⟨g, rfl, hgp, hglt, hlc, hcm⟩ := hWl.row (by rw [packN_length]; omega)
     have c0 := hWl.c0
     have c1 := hWl.c1
     have f1 := hWl.f 1
     have hcg := hWl.cg (l - 1) (by rw [packN_length]; omega)
     have hfg := hWl.fg (l - 1)
     rw [packN_length] at c0
     have ex : (packN Bc l)[l - 1]'(by rw [packN_length]; omega) = byteOf Bc (l - 1) := by simp [packN]
     rw [ex] at hcg
     have HM := hM
     clear ex hlc hcm hgp
     have hne : True := trivial
     by_cases hrk : (k : Int) < 8 * (l : Int) - Bc.length
     ·skip
      go_quiet (fail)
      go_wp2
      go_quiet (fail)
      go_wp2
      go_region
      rw [put_byte0 Bc n l k hn hc01 hl0 hl1 (by omega)]
      generalize hw2 : World.setCell _ _ _ = w2
      have hW2 : Wr w2 p (some ⟨g, 0, none⟩) cap2 ((packN Bc l).set (l - 1) (byteOf Bc (l - 1) + n % 2 ^ k * 2 ^ (8 * l - Bc.length - k))) Bc.length := by rw [← hw2]; exact (hWl.drewN _).setByte (l - 1) _
      have d1 := hW2.c1
      have e1 := hW2.f 1
      have HW2 : Hid _ := hw2
      clear hw2 c0 c1 f1 hcg hfg hne hW2
      go_wp2
      go_roundw
      case rel =>
       have hw2 := HW2.out
       subst hw2
       refine ⟨0, some ⟨g, 0, none⟩, Bc ++ bitsOf n k, by omega, by go_num, ?_, hc01.append (bitsOf_01 _ _), ?_, ?_, HM⟩
       ·exact WrB.step (hWl.drewN _) hl0 hl1 h0 (by omega) n _ (by omega)
       ·have := HE.out
        simpa [bitsOf] using this
       ·exact ((hS.drewN _).setCell _ _ (footrow hM)).setCell _ _ (.inl (.inl rfl))
      case measure => simp [intOf]; omega
     ·skip
      go_quiet (fail)
      go_wp2
      go_quiet (fail)
      go_wp2
      go_region
      rw [put_byte1 Bc n l (k - (8 * l - Bc.length)) hn hc01 hl0 hl1 (by omega)]
      generalize hw2 : World.setCell _ _ _ = w2
      have hW2 : Wr w2 p (some ⟨g, 0, none⟩) cap2 ((packN Bc l).set (l - 1) (byteOf Bc (l - 1) + n / 2 ^ (k - (8 * l - Bc.length)) % 2 ^ (8 * l - Bc.length))) Bc.length := by rw [← hw2]; exact (hWl.drewN _).setByte (l - 1) _
      have d1 := hW2.c1
      have e1 := hW2.f 1
      have HW2 : Hid _ := hw2
      clear hw2 c0 c1 f1 hcg hfg hne hW2
      go_wp2
      go_roundw
      case rel =>
       have hw2 := HW2.out
       subst hw2
       refine ⟨k - (8 * l - Bc.length), some ⟨g, 0, none⟩, Bc ++ bitsOf (n / 2 ^ (k - (8 * l - Bc.length))) (8 * l - Bc.length), by omega, by go_num, ?_, hc01.append (bitsOf_01 _ _), ?_, ?_, HM⟩
       ·exact WrB.step1 (hWl.drewN _) hl0 hl1 hl2 (n / 2 ^ (k - (8 * l - Bc.length))) _ (by omega)
       ·have := HE.out
        rw [List.append_assoc, ← bitsOf_add, show 8 * l - Bc.length + (k - (8 * l - Bc.length)) = k from by omega]
        exact this
       ·exact ((hS.drewN _).setCell _ _ (footrow hM)).setCell _ _ (.inl (.inl rfl))
      case measure => simp [intOf]; omega
   ·have hl0 : 0 < (pack Bc).length := by omega
    have hl1 : 8 * (pack Bc).length ≤ Bc.length + 8 := by omega
    have hl2 : Bc.length < 8 * (pack Bc).length := by omega
    have hWl : Wr wr p ao' cap (packN Bc (pack Bc).length) Bc.length := by rw [hpl]; exact hW
    generalize hL : (pack Bc).length = l at *
    clear hpl
    obtain ⟨g, rfl, hgp, hglt, hlc, hcm⟩ := hWl.row (by rw [packN_length]; omega)
    have c0 := hWl.c0
    have c1 := hWl.c1
    have f1 := hWl.f 1
    have hcg := hWl.cg (l - 1) (by rw [packN_length]; omega)
    have hfg := hWl.fg (l - 1)
    rw [packN_length] at c0
    have ex : (packN Bc l)[l - 1]'(by rw [packN_length]; omega) = byteOf Bc (l - 1) := by simp [packN]
    rw [ex] at hcg
    have HM := hM
    have hne : ((Bc.length : Int) == 8 * (l : Int)) = false := by simp; omega
    clear hfull hL ex hW hlc hcm hgp
    by_cases hrk : (k : Int) < 8 * (l : Int) - Bc.length
    ·go_wp2
     go_quiet (fail)
     go_wp2
     go_quiet (fail)
     go_wp2
     go_quiet (fail)
     go_wp2
     go_region
     rw [put_byte0 Bc n l k hn hc01 hl0 hl1 (by omega)]
     generalize hw2 : World.setCell _ _ _ = w2
     have hW2 : Wr w2 p (some ⟨g, 0, none⟩) cap ((packN Bc l).set (l - 1) (byteOf Bc (l - 1) + n % 2 ^ k * 2 ^ (8 * l - Bc.length - k))) Bc.length := by rw [← hw2]; exact (hWl.drewN _).setByte (l - 1) _
     have d1 := hW2.c1
     have e1 := hW2.f 1
     have HW2 : Hid _ := hw2
     clear hw2 c0 c1 f1 hcg hfg hne hW2
     go_wp2
     go_roundw
     case rel =>
      have hw2 := HW2.out
      subst hw2
      refine ⟨0, some ⟨g, 0, none⟩, Bc ++ bitsOf n k, by omega, by go_num, ?_, hc01.append (bitsOf_01 _ _), ?_, ?_, HM⟩
      ·exact WrB.step (hWl.drewN _) hl0 hl1 h0 (by omega) n _ (by omega)
      ·have := HE.out
       simpa [bitsOf] using this
      ·exact ((hS.drewN _).setCell _ _ (footrow hM)).setCell _ _ (.inl (.inl rfl))
     case measure => simp [intOf]; omega
    ·go_wp2
     go_quiet (fail)
     go_wp2
     go_quiet (fail)
     go_wp2
     go_quiet (fail)
     go_wp2
     go_region
     rw [put_byte1 Bc n l (k - (8 * l - Bc.length)) hn hc01 hl0 hl1 (by omega)]
     generalize hw2 : World.setCell _ _ _ = w2
     have hW2 : Wr w2 p (some ⟨g, 0, none⟩) cap ((packN Bc l).set (l - 1) (byteOf Bc (l - 1) + n / 2 ^ (k - (8 * l - Bc.length)) % 2 ^ (8 * l - Bc.length))) Bc.length := by rw [← hw2]; exact (hWl.drewN _).setByte (l - 1) _
     have d1 := hW2.c1
     have e1 := hW2.f 1
     have HW2 : Hid _ := hw2
     clear hw2 c0 c1 f1 hcg hfg hne hW2
     go_wp2
     go_roundw
     case rel =>
      have hw2 := HW2.out
      subst hw2
      refine ⟨k - (8 * l - Bc.length), some ⟨g, 0, none⟩, Bc ++ bitsOf (n / 2 ^ (k - (8 * l - Bc.length))) (8 * l - Bc.length), by omega, by go_num, ?_, hc01.append (bitsOf_01 _ _), ?_, ?_, HM⟩
      ·exact WrB.step1 (hWl.drewN _) hl0 hl1 hl2 (n / 2 ^ (k - (8 * l - Bc.length))) _ (by omega)
      ·have := HE.out
       rw [List.append_assoc, ← bitsOf_add, show 8 * l - Bc.length + (k - (8 * l - Bc.length)) = k from by omega]
       exact this
      ·exact ((hS.drewN _).setCell _ _ (footrow hM)).setCell _ _ (.inl (.inl rfl))
     case measure => simp [intOf]; omega
  ·obtain rfl : k = 0 := by omega
   go_wp2
   go_end0
   refine ⟨rfl, ao', ⟨cap, ?_⟩, hS, hM⟩
   have := HE.out
   simp only [bitsOf, List.append_nil] at this
   rw [← this]
   exact hW
theorem put_ok (p n k : Nat) (hk : k ≤ 64) (hn : n < 2 ^ k) (w : World) (ao : Option Addr) (B : List Nat) (h01 : Bits01 B) (hB : B.length ≤ 10000000000000) (hw : WrB w p ao B) :
  Calls Tryz.prog 53 #[.pointer (some ⟨p, 0, none⟩), .int .u64 (n : Int), .int .i64 (k : Int)] w fun e w' =>
   e = .returned (.int .i64 0) ∧ ∃ ao', WrB w' p ao' (B ++ bitsOf n k) ∧ Stays (foot p ao) w w' ∧ Moved w.heap.size ao ao' := by
 have h64 : n < 18446744073709551616 := Nat.lt_of_lt_of_le hn (pow_le_of k 64 hk)
 have hz : (n : Int) / 2 ^ k = 0 := by
  have : n / 2 ^ k = 0 := Nat.div_eq_of_lt hn
  have e : (n : Int) / 2 ^ k = ((n / 2 ^ k : Nat) : Int) := by simp
  rw [e, this]; rfl
 go_enter Tryz.func53, Tryz.ntmps53
 go_wp2_with (go_at_call 107; refine (put_spec p n k h64 hk w ao B h01 hB hw).mono ?_; rintro e w' ⟨rfl, ao', h1, h2, h3⟩)
 go_ret
 exact ⟨rfl, ao', h1, h2, h3⟩
theorem put_bad (p : Nat) (n k : Int) (hn : 0 ≤ n) (hn2 : n < 18446744073709551616) (hbad : k < 0 ∨ 64 < k ∨ (0 ≤ k ∧ k ≤ 64 ∧ 2 ^ k.toNat ≤ n)) (w : World) :
  Calls Tryz.prog 53 #[.pointer (some ⟨p, 0, none⟩), .int .u64 n, .int .i64 k] w fun e w' => e = .returned (.int .i64 11) ∧ w' = w := by
 rcases hbad with h | h | ⟨h1, h2, h3⟩
 ·go_enter Tryz.func53, Tryz.ntmps53
  go_wp2
  go_ret
  exact ⟨rfl, rfl⟩
 ·go_enter Tryz.func53, Tryz.ntmps53
  go_wp2
  go_ret
  exact ⟨rfl, rfl⟩
 ·have hp : 0 < (2 : Int) ^ k.toNat := Int.pow_pos (by decide)
  have hq : 1 ≤ n / 2 ^ k.toNat := Int.le_ediv_of_mul_le hp (by omega)
  have hz : (n / 2 ^ k.toNat != 0) = true := by simp; omega
  clear hq hp
  go_enter Tryz.func53, Tryz.ntmps53
  go_wp2
  go_ret
  exact ⟨rfl, rfl⟩
theorem unary_spec (p n : Nat) (hn : n ≤ 16777216) (w : World) (ao : Option Addr) (B : List Nat) (h01 : Bits01 B) (hB : B.length ≤ 9000000000000) (hw : WrB w p ao B) :
  Calls Tryz.prog 175 #[.pointer (some ⟨p, 0, none⟩), .int .i64 (n : Int)] w fun e w' =>
   e = .returned (.tuple #[]) ∧ ∃ ao', WrB w' p ao' (B ++ List.replicate n 0 ++ [1]) ∧ Stays (foot p ao) w w' ∧ Moved w.heap.size ao ao' := by
 obtain ⟨i0, hi, hz0, hz1, hz2⟩ := info_parts Tryz.info5
 obtain ⟨cap, hW⟩ := hw
 have c0 := hW.c0
 have c1 := hW.c1
 have f1 := hW.f 1
 have hpl := pack_length B
 generalize hL : (pack B).length = l at *
 have HP : Hid _ := hpl
 have HL : Hid _ := hL
 have hl8 : 8 * l < B.length + 8 := by omega
 have hl9 : B.length ≤ 8 * l := by omega
 obtain ⟨m, hm⟩ : ∃ m : Nat, l + m = (B.length + n + 7) / 8 := ⟨(B.length + n + 7) / 8 - l, by omega⟩
 have hmi : ((B.length : Int) + (n : Int) + 7) / 8 - (l : Int) = (m : Int) := by omega
 have hml : l + m ≤ 2000000000000 := by omega
 have HM : Hid _ := hm
 have HI : Hid _ := hmi
 clear hpl hL hm hmi
 go_enter Tryz.func175, Tryz.ntmps175
 go_wp2
 generalize hwx : World.setCell _ _ _ = wx
 have hWx : Wr wx p ao cap (pack B) (B.length + n) := by
  rw [← hwx]
  have := hW.setCount (B.length + n)
  simpa using this
 have hSx : Stays (foot p ao) w wx := by rw [← hwx]; exact (Stays.refl _ _).setCell _ _ (.inl (.inl rfl))
 have hsz : wx.heap.size = w.heap.size := by rw [← hwx]; simp [World.setCell]
 have HZ : Hid _ := hsz
 clear hwx hsz c0 c1 f1 hW
 have c0 := hWx.c0
 have c1 := hWx.c1
 have b0 := hWx.f 0
 have hown := hWx.own
 rw [HL.out] at c0 hown
 have ei : ((B.length + n : Nat) : Int) = (B.length : Int) + (n : Int) := by omega
 rw [ei] at c1
 clear ei
 go_quiet (fail)
 rw [HI.out]
 go_wp2_with (at_builtin; refine wpList_append_zeros _ rfl _ _ 103 3 rfl 5 i0 (.int .u8 0) 1 Tryz.underlying103 Tryz.underlying3 hi hz0 hz1 hz2 rfl rfl ao cap l _ rfl (owns_drewN hown _) m rfl ?cc ?cd ?ce)
 case cc => unfold maxLen; omega
 case cd => omega
 case ce =>
  intro ao2 cap2 w1 hown2 hgr hmv
  have hWd := hWx.drewN nq
  have q0 : w1.cell? ⟨p, 0, none⟩ = some (.slice ao l cap) := by
   rw [World.cell?_of_block (hgr.block p hWd.lt (fun e => hWx.ne e.symm)), hWd.c0, HL.out]
  have qf : w1.frozen? ⟨p, 0, none⟩ = false := by
   rw [World.frozen?_of_block (hgr.block p hWd.lt (fun e => hWx.ne e.symm)), hWd.f 0]
  have hW2 : WrB (w1.setCell ⟨p, 0, none⟩ (.slice ao2 (l + m) cap2)) p ao2 (B ++ List.replicate n 0) := by
   refine ⟨cap2, ?_⟩
   have e : pack (B ++ List.replicate n 0) = pack B ++ List.replicate m 0 := by
    unfold pack
    rw [packN_zeros, List.length_append, List.length_replicate, ← HM.out, ← HP.out]
    exact packN_past B l m hl9
   rw [e, List.length_append, List.length_replicate]
   refine hWd.setSlice hgr (by simpa using hmv) (l + m) (by rw [List.length_append, List.length_replicate, HL.out]) ?_
   rw [byteVals_append, byteVals_zeros]
   exact hown2
  have hS2 : Stays (foot p ao) w (w1.setCell ⟨p, 0, none⟩ (.slice ao2 (l + m) cap2)) := by
   have s1 : Stays (foot p ao) wx w1 := ⟨hgr.os, hgr.tape, hgr.output, hgr.size, fun k hk hs => hgr.block k hk (fun e => hs (.inr e.symm))⟩
   exact (hSx.trans s1 (fun _ _ h => h)).setCell _ _ (.inl (.inl rfl))
  have hM2 : Moved w.heap.size ao ao2 := by
   have := hmv
   simp only [World.heap_drewN, HZ.out] at this
   exact this
  clear hown2 hgr hmv hWd hWx c0 c1 b0 hown hSx
  go_wp2_with (go_at_call 107; refine (put_spec p 1 1 (by decide) (by decide) _ ao2 (B ++ List.replicate n 0) (h01.append (Bits01.zeros n)) (by simp; omega) hW2).mono ?_; rintro e w' ⟨rfl, ao', h1, h2, h3⟩)
  go_end0
  refine ⟨rfl, ao', h1, hS2.foot h2 hM2, hM2.trans h3 ?_⟩
  exact hS2.size
def sbits (l : List Nat) : List Nat := l.flatMap fun b => bitsOf b 8
def bytesOf (s : ByteArray) : List Nat := s.data.toList.map UInt8.toNat
def bitsAt (s : ByteArray) (at_ k : Nat) : Nat := num (((sbits (bytesOf s)).drop at_).take k)
def Rd (w : World) (q : Nat) (s : ByteArray) (at_ : Nat) : Prop := w.heap[q]? = some (.cells #[.int .i64 (at_ : Int), .int .i64 (8 * (s.size : Int)), .string s] 144 (0, 0))
def only (q : Nat) : Nat → Prop := fun k => k = q
theorem ret_int {k : IntKind} {a b : Int} (h : a = b) : Ending.returned (.int k a) = .returned (.int k b) := by rw [h]
def foldN (n : Int) : Nat := if 0 ≤ n then (2 * n).toNat else (-(2 * n) - 1).toNat
theorem foldN_pos (n : Int) (h : 0 ≤ n) : (foldN n : Int) = 2 * n := by unfold foldN; rw [if_pos h]; omega
theorem foldN_neg (n : Int) (h : n < 0) : (foldN n : Int) = -(2 * n) - 1 := by unfold foldN; rw [if_neg (by omega)]; omega
theorem foldN_lt (n : Int) (h1 : -9223372036854775808 ≤ n) (h2 : n ≤ 9223372036854775807) : foldN n < 18446744073709551616 := by
 by_cases h : 0 ≤ n
 ·have := foldN_pos n h; omega
 ·have := foldN_neg n (by omega); omega
theorem xor_ones (x : Nat) (h : x < 18446744073709551616) : x ^^^ 18446744073709551615 = 18446744073709551615 - x := by
 apply Nat.eq_of_testBit_eq
 intro i
 have e : (18446744073709551615 : Nat) - x = 2 ^ 64 - (x + 1) := by omega
 rw [e, Nat.testBit_two_pow_sub_succ (by omega), Nat.testBit_xor, show (18446744073709551615 : Nat) = 2 ^ 64 - 1 from rfl, Nat.testBit_two_pow_sub_one]
 by_cases hi : i < 64
 ·simp [hi]
 ·have : x.testBit i = false := Nat.testBit_lt_two_pow (Nat.lt_of_lt_of_le h (Nat.pow_le_pow_right (n := 2) (by decide) (show 64 ≤ i by omega)))
  simp [hi, this]
theorem folded_spec (n : Int) (h1 : -9223372036854775808 ≤ n) (h2 : n ≤ 9223372036854775807) (w : World) :
  Calls Tryz.prog 237 #[.int .i64 n] w fun e w' => e = .returned (.int .u64 (foldN n : Int)) ∧ w' = w := by
 by_cases h0 : 0 ≤ n
 ·go_enter Tryz.func237, Tryz.ntmps237
  go_wp2
  go_ret
  refine ⟨ret_int ?_, rfl⟩
  rw [foldN_pos n h0, show n / 9223372036854775808 = ((0 : Nat) : Int) from by omega, show n * 2 = (((2 * n).toNat : Nat) : Int) from by omega, u64_xor_nat _ _ (by omega) (by omega), Nat.xor_zero]
  omega
 ·go_enter Tryz.func237, Tryz.ntmps237
  go_wp2
  go_ret
  refine ⟨ret_int ?_, rfl⟩
  have e1 : IntKind.u64.wrap (IntKind.u64.wrap n * 2) = (((18446744073709551616 + 2 * n).toNat : Nat) : Int) := by
   rw [IntKind.wrap_u64, IntKind.wrap_u64]; omega
  have e2 : IntKind.u64.wrap (n / 9223372036854775808) = ((18446744073709551615 : Nat) : Int) := by
   rw [IntKind.wrap_u64]; omega
  rw [foldN_neg n (by omega), e1, e2, u64_xor_nat _ _ (by omega) (by omega), xor_ones _ (by omega)]
  omega
theorem fold_spec (n : Int) (h1 : -9223372036854775808 ≤ n) (h2 : n ≤ 9223372036854775807) (w : World) :
  Calls Tryz.prog 147 #[.int .i64 n] w fun e w' => e = .returned (.int .u64 (foldN n : Int)) ∧ w' = w := by
 by_cases h0 : 0 ≤ n
 ·go_enter Tryz.func147, Tryz.ntmps147
  go_wp2
  go_ret
  refine ⟨ret_int ?_, rfl⟩
  rw [foldN_pos n h0]; omega
 ·go_enter Tryz.func147, Tryz.ntmps147
  go_wp2
  go_ret
  refine ⟨ret_int ?_, rfl⟩
  rw [foldN_neg n (by omega)]; omega
theorem rice_width (p : Nat) (n k : Int) (hk : k < 0 ∨ 30 < k) (w : World) : Calls Tryz.prog 224 #[.pointer (some ⟨p, 0, none⟩), .int .i64 n, .int .i64 k] w fun e w' => e = .returned (.int .i64 11) ∧ w' = w := by
 rcases hk with hk | hk
 ·go_enter Tryz.func224, Tryz.ntmps224
  go_wp2
  go_ret
  exact ⟨rfl, rfl⟩
 ·go_enter Tryz.func224, Tryz.ntmps224
  go_wp2
  go_ret
  exact ⟨rfl, rfl⟩
theorem div_cast (x k : Nat) : (x : Int) / 2 ^ k = ((x / 2 ^ k : Nat) : Int) := by simp
theorem rice_long (p : Nat) (n : Int) (h1 : -9223372036854775808 ≤ n) (h2 : n ≤ 9223372036854775807) (k : Nat) (hk : k ≤ 30) (hl : 16777216 < foldN n / 2 ^ k) (w : World) :
  Calls Tryz.prog 224 #[.pointer (some ⟨p, 0, none⟩), .int .i64 n, .int .i64 (k : Int)] w fun e w' => e = .returned (.int .i64 11) ∧ w' = w := by
 have hq : (16777216 : Int) < (foldN n : Int) / 2 ^ k := by rw [div_cast]; omega
 go_enter Tryz.func224, Tryz.ntmps224
 go_wp2_with (go_at_call 237; refine (folded_spec n h1 h2 w).mono ?_; rintro e w' ⟨rfl, rfl⟩)
 go_ret
 exact ⟨rfl, rfl⟩
theorem rice_ok (p : Nat) (n : Int) (h1 : -9223372036854775808 ≤ n) (h2 : n ≤ 9223372036854775807) (k : Nat) (hk : k ≤ 30) (hl : foldN n / 2 ^ k ≤ 16777216)
  (w : World) (ao : Option Addr) (B : List Nat) (h01 : Bits01 B) (hB : B.length ≤ 9000000000000) (hw : WrB w p ao B) :
  Calls Tryz.prog 224 #[.pointer (some ⟨p, 0, none⟩), .int .i64 n, .int .i64 (k : Int)] w fun e w' =>
   e = .returned (.int .i64 0) ∧ ∃ ao', WrB w' p ao' (B ++ List.replicate (foldN n / 2 ^ k) 0 ++ [1] ++ bitsOf (foldN n) k) ∧ Stays (foot p ao) w w' ∧ Moved w.heap.size ao ao' := by
 obtain ⟨q, hq⟩ : ∃ q, q = foldN n / 2 ^ k := ⟨_, rfl⟩
 have hqi : (foldN n : Int) / 2 ^ k = (q : Int) := by rw [div_cast, hq]
 rw [← hq] at hl ⊢
 have hf := foldN_lt n h1 h2
 have HQ : Hid _ := hq
 clear hq
 go_enter Tryz.func224, Tryz.ntmps224
 go_wp2_with (first | (go_at_call 237; refine (folded_spec n h1 h2 w).mono ?_; rintro e w' ⟨rfl, rfl⟩) | (go_at_call 175; refine (unary_spec p q hl _ ao B h01 hB hw).mono ?_; rintro e w1 ⟨rfl, ao1, hw1, hs1, hm1⟩))
 have h01' : Bits01 (B ++ List.replicate q 0 ++ [1]) := (h01.append (Bits01.zeros q)).append (by intro b hb; simp at hb; omega)
 have hB' : (B ++ List.replicate q 0 ++ [1]).length ≤ 10000000000000 := by simp; omega
 refine (put_spec p (foldN n) k hf (by omega) _ ao1 _ h01' hB' hw1).mono ?_
 rintro e w2 ⟨rfl, ao2, hw2, hs2, hm2⟩
 go_wp2
 go_ret
 exact ⟨rfl, ao2, hw2, hs1.foot hs2 hm1, hm1.trans hm2 hs1.size⟩
def lead (L : List Nat) : Nat := (L.takeWhile (· == 0)).length
def ahead (s : ByteArray) (at_ : Nat) : List Nat := (sbits (bytesOf s)).drop at_
theorem foot_below {N p : Nat} {ao : Option Addr} {w w' : World} (h : Stays (foot p ao) w w') (hN : N ≤ w.heap.size) (hp : N ≤ p) (ha : ∀ b, blockOf ao = some b → N ≤ b) : Below N w w' :=
 h.below hN (fun i hi hf => by
  rcases hf with hf | hf
  ·omega
  ·have := ha i hf; omega)
theorem ret_bool {a b : Bool} (h : a = b) : Ending.returned (.bool a) = .returned (.bool b) := by rw [h]
structure Xw (w : World) (x : Nat) (ao : Option Addr) (cap : Nat) (B : List Nat) : Prop where
 blk : w.heap[x]? = some (.cells #[.slice ao B.length cap] 126 (0, 0))
 own : w.ownsRow 0 5 1 (.slice ao B.length cap) B.length (byteVals B)
 ne : blockOf ao ≠ some x
section
variable {w w' : World} {x : Nat} {ao : Option Addr} {cap : Nat} {B : List Nat}
theorem Xw.c0 (h : Xw w x ao cap B) : w.cell? ⟨x, 0, none⟩ = some (.slice ao B.length cap) := by simp [World.cell?, h.blk]
theorem Xw.f (h : Xw w x ao cap B) (o : Nat) : w.frozen? ⟨x, o, none⟩ = false := by simp [World.frozen?, h.blk]
theorem Xw.lt (h : Xw w x ao cap B) : x < w.heap.size := lt_of_block h.blk
theorem Xw.kept (h : Xw w x ao cap B) (hp : w'.heap[x]? = w.heap[x]?) (ha : ∀ b, blockOf ao = some b → w'.heap[b]? = w.heap[b]?) : Xw w' x ao cap B := by
 refine ⟨by rw [hp]; exact h.blk, ⟨h.own.1, ?_⟩, h.ne⟩
 rcases h.own.2 with h0 | ⟨g, cap', cur, hv, hb, hg, r⟩
 ·exact .inl h0
 ·refine .inr ⟨g, cap', cur, hv, hb, ?_, r⟩
  simp only [Value.slice.injEq, true_and] at hv
  rw [ha g (by simp [blockOf, hv.1])]
  exact hg
theorem Xw.blocks (h : Xw w x ao cap B) : ∀ b, blockOf ao = some b → b < w.heap.size := by
 intro b hb
 obtain ⟨ao1, cap1, hv, _, _, _, hs⟩ := owns_shape h.own
 simp only [Value.slice.injEq, true_and] at hv
 obtain ⟨rfl, rfl⟩ := hv
 cases ao with
 | none => cases hb
 | some a => cases hb; exact (hs a rfl).2.2
theorem Xw.stays (h : Xw w x ao cap B) {S : Nat → Prop} (hS : Stays S w w') (hp : ¬ S x) (ha : ∀ b, blockOf ao = some b → ¬ S b) : Xw w' x ao cap B :=
 h.kept (hS.block x h.lt hp) (fun b hb => hS.block b (h.blocks b hb) (ha b hb))
theorem Xw.setSlice (h : Xw w x ao cap B) {ao' : Option Addr} {cap' : Nat} {B' : List Nat} (hg : w.grownBy w' (blockOf ao)) (hm : Moved w.heap.size ao ao') (n' : Nat) (hn : n' = B'.length)
  (hown : w'.ownsRow 0 5 1 (.slice ao' n' cap') n' (byteVals B')) : Xw (w'.setCell ⟨x, 0, none⟩ (.slice ao' n' cap')) x ao' cap' B' := by
 subst hn
 have hne : blockOf ao' ≠ some x := fun e => by
  rcases hm x e with h1 | h1
  ·exact h.ne h1
  ·have := h.lt; omega
 have hb : w'.heap[x]? = some (.cells #[.slice ao B.length cap] 126 (0, 0)) := by
  rw [hg.block x h.lt (fun e => h.ne e.symm)]; exact h.blk
 refine ⟨?_, ownsRow_setCell_other hown (fun e => hne ?_) _, hne⟩
 ·rw [block_setCell w' x 0 _ _ _ hb]
  simp
 ·cases ao' with
  | none => simp [Value.ownBlock] at e
  | some a => simpa [Value.ownBlock, blockOf] using e
theorem Xw.push (h : Xw w x ao cap B) {v : Nat} {w1 : World} {ao' : Option Addr} {cap' : Nat} (o : Obj)
  (hg : (w.alloc o).grownBy w1 (blockOf ao)) (hm : Moved (w.heap.size + 1) ao ao') (hown : w1.ownsRow 0 5 1 (.slice ao' (B.length + 1) cap') (B.length + 1) (byteVals B ++ [.int .u8 (v : Int)])) :
  Xw (w1.setCell ⟨x, 0, none⟩ (.slice ao' (B.length + 1) cap')) x ao' cap' (B ++ [v]) ∧ Stays (foot x ao) w (w1.setCell ⟨x, 0, none⟩ (.slice ao' (B.length + 1) cap')) ∧ Moved w.heap.size ao ao' := by
 have hX : Xw (w.alloc o) x ao cap B := h.kept (Below.heap_alloc _ _ _ h.lt) (fun b hb => Below.heap_alloc _ _ _ (h.blocks b hb))
 refine ⟨?_, ?_, fun b hb => ?_⟩
 ·refine hX.setSlice hg (by simpa using hm) (B.length + 1) (by simp) ?_
  rw [byteVals_append]
  exact hown
 ·have s1 : Stays (foot x ao) w w1 := by
   refine Stays.trans (T := foot x ao) (b := w.alloc o) ?_ (Stays.of_grown hg (fun b hb => .inr hb)) (fun i _ h => h)
   exact ⟨rfl, rfl, rfl, by simp, fun i hi _ => Below.heap_alloc _ _ _ hi⟩
  exact s1.setCell _ _ (.inl (.inl rfl))
 ·rcases hm b hb with h1 | h1
  ·exact .inl h1
  ·exact .inr (by omega)
theorem Xw.cells (h : Xw w x ao cap B) (o : Obj) {w1 : World} (hg : (w.alloc o).grownBy w1 (blockOf ao)) :
  w1.cell? ⟨x, 0, none⟩ = some (.slice ao B.length cap) ∧ w1.frozen? ⟨x, 0, none⟩ = false := by
 have hX : Xw (w.alloc o) x ao cap B := h.kept (Below.heap_alloc _ _ _ h.lt) (fun b hb => Below.heap_alloc _ _ _ (h.blocks b hb))
 exact ⟨by rw [World.cell?_of_block (hg.block x hX.lt (fun e => h.ne e.symm)), hX.c0], by rw [World.frozen?_of_block (hg.block x hX.lt (fun e => h.ne e.symm)), hX.f 0]⟩
end
def XwB (w : World) (x : Nat) (ao : Option Addr) (B : List Nat) : Prop := ∃ cap, Xw w x ao cap B
theorem XwB.lt {w : World} {x : Nat} {ao : Option Addr} {B : List Nat} (h : XwB w x ao B) : x < w.heap.size := by obtain ⟨_, h⟩ := h; exact h.lt
theorem XwB.blocks {w : World} {x : Nat} {ao : Option Addr} {B : List Nat} (h : XwB w x ao B) : ∀ b, blockOf ao = some b → b < w.heap.size := by obtain ⟨_, h⟩ := h; exact h.blocks
theorem XwB.stays {w w' : World} {x : Nat} {ao : Option Addr} {B : List Nat} (h : XwB w x ao B) {S : Nat → Prop} (hS : Stays S w w') (hp : ¬ S x) (ha : ∀ b, blockOf ao = some b → ¬ S b) : XwB w' x ao B := by
 obtain ⟨cap, h⟩ := h; exact ⟨cap, h.stays hS hp ha⟩
theorem one_new (w : World) (v : Value) (t : TypeId) : ∀ (j : Nat) (u : Value), [v][j]? = some u → (w.alloc (.cells #[v] t)).cell? ((Addr.mk w.heap.size 0 none).add j) = some u := by
 intro j u hj
 match j, hj with
 | 0, hj => simp at hj; subst hj; exact cell_new w _ t
theorem one_int (k : IntKind) (n : Int) : ∀ u ∈ [Value.int k n], u.oneCell' = true := by intro u hu; simp at hu; subst hu; rfl
theorem put_bit (n j : Nat) (hn : n < 18446744073709551616) : bits BinOp.and IntKind.u64 ((n : Int) / 2 ^ j) 1 = ((n / 2 ^ j % 2 : Nat) : Int) := by
 rw [div_cast]
 have hd : n / 2 ^ j ≤ n := Nat.div_le_self _ _
 have := u64_and_nat (n / 2 ^ j) 1 (by omega) (by decide)
 rw [nat_mask1] at this
 exact this
theorem refput_ok (x n k : Nat) (hk : k ≤ 64) (hn : n < 2 ^ k) (w : World) (ao : Option Addr) (B : List Nat) (hB : B.length ≤ 10000000000000) (hw : XwB w x ao B) :
  Calls Tryz.prog 150 #[.pointer (some ⟨x, 0, none⟩), .int .u64 (n : Int), .int .i64 (k : Int)] w fun e w' =>
   e = .returned (.int .i64 0) ∧ ∃ ao', XwB w' x ao' (B ++ bitsOf n k) ∧ Stays (foot x ao) w w' ∧ Moved w.heap.size ao ao' := by
 obtain ⟨i0, hi, hz0, hz1, hz2⟩ := info_parts Tryz.info5
 have h64 : n < 18446744073709551616 := Nat.lt_of_lt_of_le hn (pow_le_of k 64 hk)
 have hz : (n : Int) / 2 ^ k = 0 := by
  have : n / 2 ^ k = 0 := Nat.div_eq_of_lt hn
  rw [div_cast, this]; rfl
 by_cases hk64 : (k : Int) < 64
 all_goals
  go_enter Tryz.func150, Tryz.ntmps150
  go_wp2
  go_loopw [7] (fun t wr => ∃ (j : Nat) (ao' : Option Addr) (Bc : List Nat), j ≤ k ∧ t = .int .i64 ((j : Int) - 1) ∧ XwB wr x ao' Bc ∧ Bc ++ bitsOf n j = B ++ bitsOf n k ∧ Stays (foot x ao) w wr ∧ Moved w.heap.size ao ao') (fun t _ => (intOf t + 1).toNat)
  case atStart => exact ⟨k, ao, B, Nat.le_refl _, by go_num, hw, rfl, Stays.refl _ _, Moved.refl _ _⟩
  case round =>
   obtain ⟨j, ao', Bc, hj, rfl, ⟨cap, hX⟩, heq, hS, hM⟩ := hrel
   have hlen : Bc.length + j = B.length + k := by have := congrArg List.length heq; simpa [bitsOf_length] using this
   have hbig : Bc.length ≤ 10000000000064 := by omega
   have HE : Hid (Bc ++ bitsOf n j = B ++ bitsOf n k) := heq
   clear heq hlen hB hw hz hn
   by_cases h0 : 0 < j
   ·obtain ⟨m, rfl⟩ : ∃ m, j = m + 1 := ⟨j - 1, by omega⟩
    have hbit := put_bit n m h64
    have hb2 : n / 2 ^ m % 2 < 2 := Nat.mod_lt _ (by decide)
    obtain ⟨v, hv⟩ : ∃ v, v = n / 2 ^ m % 2 := ⟨_, rfl⟩
    rw [← hv] at hbit hb2
    have HV : Hid _ := hv
    clear hv
    have c0 := hX.c0
    have hown := hX.own
    have f0 := hX.f 0
    rw [show (((m + 1 : Nat) : Int) - 1) = (m : Int) from by omega]
    go_wp2_with (at_builtin; refine wpList_append_mine _ rfl _ _ 103 rfl 5 i0 (.int .u8 0) 1 Tryz.underlying103 hi hz0 hz1 hz2 rfl ao' cap Bc.length _ rfl (owns_alloc hown _) ⟨wr.heap.size, 0, none⟩ 1 1 [.int .u8 (v : Int)] rfl rfl (one_new _ _ _) (one_int _ _) ?cc ?cd ?ce)
    case cc => unfold maxLen; omega
    case cd => omega
    case ce =>
     intro ao2 cap2 w1 hown2 hgr hmv
     have hP := hX.push _ hgr (by simpa using hmv) hown2
     have hC := hX.cells _ hgr
     obtain ⟨q0, qf⟩ := hC
     clear hown2 hgr hmv c0 hown f0 hX
     go_wp2
     go_roundw
     case rel =>
      refine ⟨m, ao2, Bc ++ [v], by omega, by go_num, ⟨cap2, hP.1⟩, ?_, hS.foot hP.2.1 hM, hM.trans hP.2.2 hS.size⟩
      have e := HE.out
      rw [bitsOf, ← HV.out] at e
      rw [List.append_assoc]
      exact e
     case measure => simp only [intOf]; omega
   ·obtain rfl : j = 0 := by omega
    go_wp2
    go_ret
    refine ⟨rfl, ao', ⟨cap, ?_⟩, hS, hM⟩
    have := HE.out
    simp only [bitsOf, List.append_nil] at this
    rw [← this]
    exact hX
theorem refput_bad (x : Nat) (n k : Int) (hn : 0 ≤ n) (hn2 : n < 18446744073709551616) (hbad : k < 0 ∨ 64 < k ∨ (0 ≤ k ∧ k ≤ 64 ∧ 2 ^ k.toNat ≤ n)) (w : World) :
  Calls Tryz.prog 150 #[.pointer (some ⟨x, 0, none⟩), .int .u64 n, .int .i64 k] w fun e w' => e = .returned (.int .i64 11) ∧ w' = w := by
 rcases hbad with h | h | ⟨h1, h2, h3⟩
 ·go_enter Tryz.func150, Tryz.ntmps150
  go_wp2
  go_ret
  exact ⟨rfl, rfl⟩
 ·go_enter Tryz.func150, Tryz.ntmps150
  go_wp2
  go_ret
  exact ⟨rfl, rfl⟩
 ·have hk64 : k < 64 := by
   rcases Int.lt_or_le k 64 with h | h
   ·exact h
   ·obtain rfl : k = 64 := by omega
    have : (2 : Int) ^ (64 : Int).toNat = 18446744073709551616 := by decide
    omega
  have hp : 0 < (2 : Int) ^ k.toNat := Int.pow_pos (by decide)
  have hq : 1 ≤ n / 2 ^ k.toNat := Int.le_ediv_of_mul_le hp (by omega)
  have hz : (n / 2 ^ k.toNat != 0) = true := by simp; omega
  clear hq hp h2
  go_enter Tryz.func150, Tryz.ntmps150
  go_wp2
  go_ret
  exact ⟨rfl, rfl⟩
theorem refunary_bad (x : Nat) (n : Int) (hn : n < 0 ∨ 16777216 < n) (w : World) : Calls Tryz.prog 151 #[.pointer (some ⟨x, 0, none⟩), .int .i64 n] w fun e w' => e = .returned (.int .i64 11) ∧ w' = w := by
 rcases hn with hn | hn
 ·go_enter Tryz.func151, Tryz.ntmps151
  go_wp2
  go_ret
  exact ⟨rfl, rfl⟩
 ·go_enter Tryz.func151, Tryz.ntmps151
  go_wp2
  go_ret
  exact ⟨rfl, rfl⟩
theorem refunary_ok (x n : Nat) (hn : n ≤ 16777216) (w : World) (ao : Option Addr) (B : List Nat) (hB : B.length ≤ 9000000000000) (hw : XwB w x ao B) :
  Calls Tryz.prog 151 #[.pointer (some ⟨x, 0, none⟩), .int .i64 (n : Int)] w fun e w' =>
   e = .returned (.int .i64 0) ∧ ∃ ao', XwB w' x ao' (B ++ List.replicate n 0 ++ [1]) ∧ Stays (foot x ao) w w' ∧ Moved w.heap.size ao ao' := by
 obtain ⟨i0, hi, hz0, hz1, hz2⟩ := info_parts Tryz.info5
 go_enter Tryz.func151, Tryz.ntmps151
 go_wp2
 go_loopw [5] (fun t wr => ∃ (j : Nat) (ao' : Option Addr), j ≤ n ∧ t = .int .i64 (j : Int) ∧ XwB wr x ao' (B ++ List.replicate j 0) ∧ Stays (foot x ao) w wr ∧ Moved w.heap.size ao ao') (fun t _ => n - (intOf t).toNat)
 case atStart => exact ⟨0, ao, Nat.zero_le _, rfl, by simpa using hw, Stays.refl _ _, Moved.refl _ _⟩
 case round =>
  obtain ⟨j, ao', hj, rfl, ⟨cap, hX⟩, hS, hM⟩ := hrel
  obtain ⟨Bc, hBc⟩ : ∃ Bc, Bc = B ++ List.replicate j 0 := ⟨_, rfl⟩
  rw [← hBc] at hX
  have hl : Bc.length ≤ 9000016777216 := by rw [hBc]; simp; omega
  have HB : Hid _ := hBc
  clear hBc hw
  have c0 := hX.c0
  have hown := hX.own
  have f0 := hX.f 0
  by_cases h0 : (j : Int) < (n : Int)
  ·go_wp2_with (at_builtin; refine wpList_append_mine _ rfl _ _ 103 rfl 5 i0 (.int .u8 0) 1 Tryz.underlying103 hi hz0 hz1 hz2 rfl ao' cap Bc.length _ rfl (owns_alloc hown _) ⟨wr.heap.size, 0, none⟩ 1 1 [.int .u8 ((0 : Nat) : Int)] rfl rfl (one_new _ _ _) (one_int _ _) ?cc ?cd ?ce)
   case cc => unfold maxLen; omega
   case cd => omega
   case ce =>
    intro ao2 cap2 w1 hown2 hgr hmv
    have hP := hX.push _ hgr (by simpa using hmv) hown2
    obtain ⟨q0, qf⟩ := hX.cells _ hgr
    clear hown2 hgr hmv c0 hown f0 hX
    go_wp2
    go_roundw
    case rel =>
     refine ⟨j + 1, ao2, by omega, by go_num, ⟨cap2, ?_⟩, hS.foot hP.2.1 hM, hM.trans hP.2.2 hS.size⟩
     have e := hP.1
     rw [HB.out, List.append_assoc, ← List.replicate_succ'] at e
     have el : (B ++ List.replicate j 0).length + 1 = Bc.length + 1 := by rw [HB.out]
     rw [el] at e
     exact e
    case measure => simp only [intOf]; omega
  ·obtain rfl : j = n := by omega
   go_wp2_with (at_builtin; refine wpList_append_mine _ rfl _ _ 103 rfl 5 i0 (.int .u8 0) 1 Tryz.underlying103 hi hz0 hz1 hz2 rfl ao' cap Bc.length _ rfl (owns_alloc hown _) ⟨wr.heap.size, 0, none⟩ 1 1 [.int .u8 ((1 : Nat) : Int)] rfl rfl (one_new _ _ _) (one_int _ _) ?ch ?ci ?cj)
   case ch => unfold maxLen; omega
   case ci => omega
   case cj =>
    intro ao2 cap2 w1 hown2 hgr hmv
    have hP := hX.push _ hgr (by simpa using hmv) hown2
    obtain ⟨q0, qf⟩ := hX.cells _ hgr
    clear hown2 hgr hmv c0 hown f0 hX
    go_wp2
    go_ret
    refine ⟨rfl, ao2, ⟨cap2, ?_⟩, hS.foot hP.2.1 hM, hM.trans hP.2.2 hS.size⟩
    rw [← List.append_assoc, ← HB.out]
    exact hP.1
def asU (n : Int) : Nat := (n % 18446744073709551616).toNat
theorem asU_lt (n : Int) : asU n < 18446744073709551616 := by unfold asU; omega
theorem asU_wrap (n : Int) : IntKind.u64.wrap n = (asU n : Int) := by rw [IntKind.wrap_u64]; unfold asU; omega
theorem wunary_bad (p : Nat) (n : Int) (hn : n < 0 ∨ 16777216 < n) (w : World) : Calls Tryz.prog 131 #[.pointer (some ⟨p, 0, none⟩), .int .i64 n] w fun e w' => e = .returned (.int .i64 11) ∧ w' = w := by
 rcases hn with hn | hn
 ·go_enter Tryz.func131, Tryz.ntmps131
  go_wp2
  go_ret
  exact ⟨rfl, rfl⟩
 ·go_enter Tryz.func131, Tryz.ntmps131
  go_wp2
  go_ret
  exact ⟨rfl, rfl⟩
theorem wunary_ok (p n : Nat) (hn : n ≤ 16777216) (w : World) (ao : Option Addr) (B : List Nat) (h01 : Bits01 B) (hB : B.length ≤ 9000000000000) (hw : WrB w p ao B) :
  Calls Tryz.prog 131 #[.pointer (some ⟨p, 0, none⟩), .int .i64 (n : Int)] w fun e w' =>
   e = .returned (.int .i64 0) ∧ ∃ ao', WrB w' p ao' (B ++ List.replicate n 0 ++ [1]) ∧ Stays (foot p ao) w w' ∧ Moved w.heap.size ao ao' := by
 go_enter Tryz.func131, Tryz.ntmps131
 go_wp2_with (go_at_call 175; refine (unary_spec p n hn w ao B h01 hB hw).mono ?_; rintro e w' ⟨rfl, ao', h1, h2, h3⟩)
 go_ret
 exact ⟨rfl, ao', h1, h2, h3⟩
theorem wsigned_width (p : Nat) (n k : Int) (hk : k < 1 ∨ 64 < k) (w : World) : Calls Tryz.prog 176 #[.pointer (some ⟨p, 0, none⟩), .int .i64 n, .int .i64 k] w fun e w' => e = .returned (.int .i64 11) ∧ w' = w := by
 rcases hk with hk | hk
 ·go_enter Tryz.func176, Tryz.ntmps176
  go_wp2
  go_ret
  exact ⟨rfl, rfl⟩
 ·go_enter Tryz.func176, Tryz.ntmps176
  go_wp2
  go_ret
  exact ⟨rfl, rfl⟩
theorem sign_div (n : Int) (m : Nat) : (n / 2 ^ m = 0 ↔ 0 ≤ n ∧ n < 2 ^ m) ∧ (n / 2 ^ m = -1 ↔ -2 ^ m ≤ n ∧ n < 0) := by
 have hp : 0 < (2 : Int) ^ m := Int.pow_pos (by decide)
 have h1 := Int.emod_nonneg n (Int.ne_of_gt hp)
 have h2 := Int.emod_lt_of_pos n hp
 have h3 := Int.mul_ediv_add_emod n (2 ^ m)
 generalize (2 : Int) ^ m = A at *
 generalize n % A = r at *
 generalize n / A = q at *
 constructor
 ·constructor
  ·rintro rfl; simp at h3; omega
  ·intro ⟨ha, hb⟩
   rcases Int.lt_trichotomy q 0 with h | h | h
   ·have : A * q ≤ A * (-1) := Int.mul_le_mul_of_nonneg_left (by omega) (by omega)
    omega
   ·exact h
   ·have : A * 1 ≤ A * q := Int.mul_le_mul_of_nonneg_left (by omega) (by omega)
    omega
 ·constructor
  ·rintro rfl; omega
  ·intro ⟨ha, hb⟩
   rcases Int.lt_trichotomy q (-1) with h | h | h
   ·have : A * q ≤ A * (-2) := Int.mul_le_mul_of_nonneg_left (by omega) (by omega)
    omega
   ·exact h
   ·have : A * 0 ≤ A * q := Int.mul_le_mul_of_nonneg_left (by omega) (by omega)
    omega
theorem wsigned_bad (p : Nat) (n : Int) (k : Nat) (h1 : 1 ≤ k) (hk : k ≤ 64) (hb : n < -2 ^ (k - 1) ∨ 2 ^ (k - 1) ≤ n) (w : World) :
  Calls Tryz.prog 176 #[.pointer (some ⟨p, 0, none⟩), .int .i64 n, .int .i64 (k : Int)] w fun e w' => e = .returned (.int .i64 11) ∧ w' = w := by
 have hd := sign_div n (k - 1)
 have hp : 0 < (2 : Int) ^ (k - 1) := Int.pow_pos (by decide)
 have e0 : (n / 2 ^ (k - 1) != 0) = true := by simp only [bne_iff_ne, ne_eq, hd.1]; omega
 have e1 : (n / 2 ^ (k - 1) != -1) = true := by simp only [bne_iff_ne, ne_eq, hd.2]; omega
 clear hd hp hb
 go_enter Tryz.func176, Tryz.ntmps176
 go_wp2
 go_ret
 exact ⟨rfl, rfl⟩
theorem wsigned_ok (p : Nat) (n : Int) (k : Nat) (h1 : 1 ≤ k) (hk : k ≤ 64) (hb1 : -2 ^ (k - 1) ≤ n) (hb2 : n < 2 ^ (k - 1)) (w : World) (ao : Option Addr) (B : List Nat) (h01 : Bits01 B) (hB : B.length ≤ 9000000000000) (hw : WrB w p ao B) :
  Calls Tryz.prog 176 #[.pointer (some ⟨p, 0, none⟩), .int .i64 n, .int .i64 (k : Int)] w fun e w' =>
   e = .returned (.int .i64 0) ∧ ∃ ao', WrB w' p ao' (B ++ bitsOf (asU n) k) ∧ Stays (foot p ao) w w' ∧ Moved w.heap.size ao ao' := by
 have hd := sign_div n (k - 1)
 have hwr := asU_wrap n
 by_cases hn : 0 ≤ n
 ·have e0 : n / 2 ^ (k - 1) = 0 := hd.1.2 ⟨hn, hb2⟩
  clear hd hb1 hb2
  go_enter Tryz.func176, Tryz.ntmps176
  go_wp2_with fail
  refine (put_spec p (asU n) k (asU_lt n) hk w ao B h01 (by omega) hw).mono ?_
  rintro e w' ⟨rfl, ao', h1, h2, h3⟩
  go_wp2
  go_ret
  exact ⟨rfl, ao', h1, h2, h3⟩
 ·have e0 : n / 2 ^ (k - 1) = -1 := hd.2.2 ⟨hb1, by omega⟩
  clear hd hb1 hb2
  go_enter Tryz.func176, Tryz.ntmps176
  go_wp2_with fail
  refine (put_spec p (asU n) k (asU_lt n) hk w ao B h01 (by omega) hw).mono ?_
  rintro e w' ⟨rfl, ao', h1, h2, h3⟩
  go_wp2
  go_ret
  exact ⟨rfl, ao', h1, h2, h3⟩
theorem fits_out (n k : Int) (hk : k < 1 ∨ 64 < k) (w : World) : Calls Tryz.prog 29 #[.int .i64 n, .int .i64 k] w fun e w' => e = .returned (.bool false) ∧ w' = w := by
 rcases hk with hk | hk
 ·go_enter Tryz.func29, Tryz.ntmps29
  go_wp2
  go_ret
  exact ⟨rfl, rfl⟩
 ·go_enter Tryz.func29, Tryz.ntmps29
  go_wp2
  go_ret
  exact ⟨rfl, rfl⟩
theorem fits_in (n : Int) (h1 : -9223372036854775808 ≤ n) (h2 : n ≤ 9223372036854775807) (k : Nat) (hk1 : 1 ≤ k) (hk : k ≤ 64) (w : World) :
  Calls Tryz.prog 29 #[.int .i64 n, .int .i64 (k : Int)] w fun e w' => e = .returned (.bool (decide (-2 ^ (k - 1) ≤ n ∧ n < 2 ^ (k - 1)))) ∧ w' = w := by
 by_cases h64 : k = 64
 ·subst h64
  go_enter Tryz.func29, Tryz.ntmps29
  go_wp2
  go_ret
  refine ⟨ret_bool ?_, rfl⟩
  symm
  rw [decide_eq_true_iff]
  have e : (2 : Int) ^ (64 - 1) = 9223372036854775808 := by decide
  rw [e]
  omega
 ·have h62 : (2 : Nat) ^ (k - 1) ≤ 2 ^ 62 := pow_le_of (k - 1) 62 (by omega)
  have hA : (2 : Int) ^ (k - 1) = ((2 ^ (k - 1) : Nat) : Int) := by simp
  obtain ⟨A, hAd⟩ : ∃ A : Nat, A = 2 ^ (k - 1) := ⟨_, rfl⟩
  rw [← hAd] at hA h62
  have hA0 : 0 < A := by rw [hAd]; exact Nat.two_pow_pos _
  have hk64 : (k : Int) < 64 := by omega
  rw [hA]
  clear hAd
  by_cases g1 : -(A : Int) ≤ n
  ·by_cases g2 : n ≤ (A : Int) - 1
   ·go_enter Tryz.func29, Tryz.ntmps29
    go_wp2
    go_ret
    exact ⟨ret_bool (by simp; omega), rfl⟩
   ·go_enter Tryz.func29, Tryz.ntmps29
    go_wp2
    go_ret
    exact ⟨ret_bool (by simp; omega), rfl⟩
  ·go_enter Tryz.func29, Tryz.ntmps29
   go_wp2
   go_ret
   exact ⟨ret_bool (by simp; omega), rfl⟩
end Go.Proofs.YthgpleelpeacjaaGreatDoor
