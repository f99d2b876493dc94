/- Own text. -/
import Derived.WalkLawsBesides
import Derived.RegionTactic
import Derived.Deep.QuietTactic
import Derived.BigQuiet
import Derived.Outline
import Derived.Test.YthgpleelpeacjaaGreatDoorRows
import Derived.Test.YthgpleelpeacjaaGreatDoorE2
import Derived.Test.YthgpleelpeacjaaGreatDoorE3
import Derived.Laws.MathBits
set_option linter.unusedSimpArgs false
set_option linter.unusedVariables false
set_option maxRecDepth 20000
set_option maxHeartbeats 12800000
namespace Go.Proofs.YthgpleelpeacjaaGreatDoor
open Go.RowKit
theorem Tryz.info5 : (Tryz.prog.info? 5).map (fun i => (i.zero, i.size, i.bytes)) = some (some (.int .u8 0), 1, 1) := by kernel_rfl
theorem put_byte (B : List Nat) (n l k t : Nat) (hn : n < 18446744073709551616) (h01 : Bits01 B) (h0 : 0 < l) (h1 : 8 * l ≤ B.length + 8) (h2 : B.length + t ≤ 8 * l) :
  bits BinOp.or IntKind.u8 ((byteOf B (l - 1) : Nat) : Int) (IntKind.u64.wrap (bits BinOp.and IntKind.u64 ((n / 2 ^ k : Nat) : Int) (IntKind.u64.wrap (IntKind.u64.wrap (2 ^ t) - 1)) * 2 ^ (8 * l - B.length - t)) % 256)
   = ((byteOf B (l - 1) + (n / 2 ^ k) % 2 ^ t * 2 ^ (8 * l - B.length - t) : Nat) : Int) := by
 have hd : n / 2 ^ k < 18446744073709551616 := Nat.lt_of_le_of_lt (Nat.div_le_self _ _) hn
 rw [mask_u64 _ t hd (by omega)]
 obtain ⟨q, hq⟩ := byteOf_room B (l - 1) (by omega) (by omega)
 exact or_u8 _ _ t _ q (by rw [hq]; congr 2; omega) (byteOf_lt B h01 _) (Nat.mod_lt _ (Nat.two_pow_pos t)) (by omega)
theorem put_byte0 (B : List Nat) (n l t : Nat) (hn : n < 18446744073709551616) (h01 : Bits01 B) (h0 : 0 < l) (h1 : 8 * l ≤ B.length + 8) (h2 : B.length + t ≤ 8 * l) :
  bits BinOp.or IntKind.u8 ((byteOf B (l - 1) : Nat) : Int) (IntKind.u64.wrap (bits BinOp.and IntKind.u64 (n : Int) (IntKind.u64.wrap (IntKind.u64.wrap (2 ^ t) - 1)) * 2 ^ (8 * l - B.length - t)) % 256)
   = ((byteOf B (l - 1) + n % 2 ^ t * 2 ^ (8 * l - B.length - t) : Nat) : Int) := by
 have h := put_byte B n l 0 t hn h01 h0 h1 h2
 simpa using h
theorem put_byte1 (B : List Nat) (n l k : Nat) (hn : n < 18446744073709551616) (h01 : Bits01 B) (h0 : 0 < l) (h1 : 8 * l ≤ B.length + 8) (h2 : B.length ≤ 8 * l) :
  bits BinOp.or IntKind.u8 ((byteOf B (l - 1) : Nat) : Int) (IntKind.u64.wrap (bits BinOp.and IntKind.u64 ((n : Int) / 2 ^ k) (IntKind.u64.wrap (IntKind.u64.wrap (2 ^ (8 * l - B.length)) - 1))) % 256)
   = ((byteOf B (l - 1) + n / 2 ^ k % 2 ^ (8 * l - B.length) : Nat) : Int) := by
 have h := put_byte B n l k (8 * l - B.length) hn h01 h0 h1 (by omega)
 simpa using h
theorem cell_new (w : World) (v : Value) (t : TypeId) : (w.alloc (.cells #[v] t)).cell? ((Addr.mk w.heap.size 0 none).add 0) = some v := by
 have h : (Addr.mk w.heap.size 0 none).add 0 = ⟨w.heap.size, 0, none⟩ := by simp [Addr.add]
 rw [h]
 simp only [World.cell?, heap_alloc_new]
 rfl
theorem footrow {n g p : Nat} {ao : Option Addr} {j : Nat} (h : Moved n ao (some ⟨g, 0, none⟩)) : foot p ao (Addr.mk g j none).block ∨ n ≤ (Addr.mk g j none).block := by
 rcases h g rfl with h1 | h1
 ·exact .inl (.inr h1)
 ·exact .inr h1
theorem put_spec (p n r : Nat) (hn : n < 18446744073709551616) (hr : r ≤ 64) (w : World) (ao : Option Addr) (B : List Nat) (h01 : Bits01 B) (hB : B.length ≤ 10000000000000) (hw : WrB w p ao B) :
  Calls Tryz.prog 107 #[.pointer (some ⟨p, 0, none⟩), .int .u64 (n : Int), .int .i64 (r : Int)] w fun e w' =>
   e = .returned (.tuple #[]) ∧ ∃ ao', WrB w' p ao' (B ++ bitsOf n r) ∧ Stays (foot p ao) w w' ∧ Moved w.heap.size ao ao' := by
 obtain ⟨i0, hi, hz0, hz1, hz2⟩ := info_parts Tryz.info5
 go_enter Tryz.func107, Tryz.ntmps107
 go_wp2
 go_loopw [2] (fun t wr => ∃ (k : Nat) (ao' : Option Addr) (Bc : List Nat), k ≤ r ∧ t = .int .i64 (k : Int) ∧ WrB wr p ao' Bc ∧ Bits01 Bc ∧ Bc ++ bitsOf n k = B ++ bitsOf n r ∧ Stays (foot p ao) w wr ∧ Moved w.heap.size ao ao') (fun t _ => (intOf t).toNat)
 case atStart => exact ⟨r, ao, B, Nat.le_refl _, rfl, hw, h01, rfl, Stays.refl _ _, Moved.refl _ _⟩
 case round =>
  obtain ⟨k, ao', Bc, hk, rfl, ⟨cap, hW⟩, hc01, heq, hS, hM⟩ := hrel
  have hlen : Bc.length + k = B.length + r := by have := congrArg List.length heq; simpa [bitsOf_length] using this
  have hbig : Bc.length ≤ 10000000000064 := by omega
  have HE : Hid (Bc ++ bitsOf n k = B ++ bitsOf n r) := heq
  have hpl := pack_length Bc
  clear heq hlen hB hw
  by_cases h0 : 0 < k
  ·by_cases hfull : Bc.length = 8 * (pack Bc).length
   ·have hpf := packN_full Bc hfull
    generalize hL : (pack Bc).length = l0 at *
    have hne : ((Bc.length : Int) == 8 * (l0 : Int)) = true := by simp; omega
    have a0 := hW.c0
    have a1 := hW.c1
    have b0 := hW.f 0
    rw [hL] at a0
    have hown := hW.own
    rw [hL] at hown
    have hps := hW.lt
    have HP : Hid _ := hpf
    have HL : Hid _ := hL
    have hl40 : l0 ≤ 2000000000000 := by omega
    clear hpf hL hpl
    go_wp2
    go_quiet (fail)
    go_wp2_with (at_builtin; refine wpList_append_mine _ rfl _ _ 103 rfl 5 i0 (.int .u8 0) 1 Tryz.underlying103 hi hz0 hz1 hz2 rfl ao' cap l0 _ rfl (owns_alloc (owns_drewN hown _) _) ⟨wr.heap.size, 0, none⟩ 1 1 [.int .u8 0] rfl rfl ?ca ?cb ?cc ?cd ?ce)
    case ca =>
     intro j u hj
     match j, hj with
     | 0, hj => simp at hj; subst hj; exact (cell_new (wr.drewN nq) (.int .u8 0) 5)
    case cb => intro u hu; simp at hu; subst hu; rfl
    case cc => unfold maxLen; omega
    case cd => omega
    case ce =>
     intro ao2 cap2 w1 hown2 hgr hmv
     obtain ⟨l, hl⟩ : ∃ l, l = l0 + 1 := ⟨_, rfl⟩
     have hWa : Wr ((wr.drewN nq).alloc (.cells #[.int .u8 0] 5)) p ao' cap (pack Bc) Bc.length := (hW.drewN nq).kept (Below.heap_alloc _ _ _ hps) (fun b hb => Below.heap_alloc _ _ _ (hW.blocks b hb))
     have q0 : w1.cell? ⟨p, 0, none⟩ = some (.slice ao' l0 cap) := by
      rw [World.cell?_of_block (hgr.block p hWa.lt (fun e => hW.ne e.symm)), hWa.c0, HL.out]
     have qf : w1.frozen? ⟨p, 0, none⟩ = false := by
      rw [World.frozen?_of_block (hgr.block p hWa.lt (fun e => hW.ne e.symm)), hWa.f 0]
     have hWx : Wr (w1.setCell ⟨p, 0, none⟩ (.slice ao2 l cap2)) p ao2 cap2 (packN Bc l) Bc.length := by
      have e : packN Bc l = pack Bc ++ [0] := by rw [hl]; exact HP.out
      refine hWa.setSlice hgr (by simpa using hmv) l (by rw [packN_length]) ?_
      rw [e, byteVals_append, hl]
      exact hown2
     have hSx : Stays (foot p ao) w (w1.setCell ⟨p, 0, none⟩ (.slice ao2 l cap2)) := by
      have s1 : Stays (foot p ao') wr w1 := by
       refine Stays.trans (T := foot p ao') (b := (wr.drewN nq).alloc (.cells #[.int .u8 0] 5)) ?_ (Stays.of_grown hgr (fun b hb => .inr hb)) (fun i _ h => h)
       exact ⟨rfl, rfl, rfl, by simp, fun i hi _ => Below.heap_alloc _ _ _ hi⟩
      exact (hS.foot s1 hM).setCell _ _ (.inl (.inl rfl))
     have hMx : Moved w.heap.size ao ao2 := hM.trans hmv (by have := hS.size; simp; omega)
     rw [← hl]
     have hl0 : 0 < l := by omega
     have hl1 : 8 * l ≤ Bc.length + 8 := by omega
     have hl2 : Bc.length < 8 * l := by omega
     clear hl hown2 hgr hmv hWa hfull hne a0 a1 b0 hown hW HP HL hS hM
     go_wp2
     generalize hwx : World.setCell _ _ _ = wx at *
     clear hwx q0 qf
     have hS := hSx
     have hM := hMx
     have hWl := hWx
     clear hSx hMx hWx
     obtain ⟨g, rfl, hgp, hglt, hlc, hcm⟩ := hWl.row (by rw [packN_length]; omega)
     have c0 := hWl.c0
     have c1 := hWl.c1
     have f1 := hWl.f 1
     have hcg := hWl.cg (l - 1) (by rw [packN_length]; omega)
     have hfg := hWl.fg (l - 1)
     rw [packN_length] at c0
     have ex : (packN Bc l)[l - 1]'(by rw [packN_length]; omega) = byteOf Bc (l - 1) := by simp [packN]
     rw [ex] at hcg
     have HM := hM
     clear ex hlc hcm hgp
     have hne : True := trivial
     by_cases hrk : (k : Int) < 8 * (l : Int) - Bc.length
     ·skip
      go_quiet (fail)
      go_wp2
      go_quiet (fail)
      go_wp2
      go_region
      rw [put_byte0 Bc n l k hn hc01 hl0 hl1 (by omega)]
      generalize hw2 : World.setCell _ _ _ = w2
      have hW2 : Wr w2 p (some ⟨g, 0, none⟩) cap2 ((packN Bc l).set (l - 1) (byteOf Bc (l - 1) + n % 2 ^ k * 2 ^ (8 * l - Bc.length - k))) Bc.length := by rw [← hw2]; exact (hWl.drewN _).setByte (l - 1) _
      have d1 := hW2.c1
      have e1 := hW2.f 1
      have HW2 : Hid _ := hw2
      clear hw2 c0 c1 f1 hcg hfg hne hW2
      go_wp2
      go_roundw
      case rel =>
       have hw2 := HW2.out
       subst hw2
       refine ⟨0, some ⟨g, 0, none⟩, Bc ++ bitsOf n k, by omega, by go_num, ?_, hc01.append (bitsOf_01 _ _), ?_, ?_, HM⟩
       ·exact WrB.step (hWl.drewN _) hl0 hl1 h0 (by omega) n _ (by omega)
       ·have := HE.out
        simpa [bitsOf] using this
       ·exact ((hS.drewN _).setCell _ _ (footrow hM)).setCell _ _ (.inl (.inl rfl))
      case measure => simp [intOf]; omega
     ·skip
      go_quiet (fail)
      go_wp2
      go_quiet (fail)
      go_wp2
      go_region
      rw [put_byte1 Bc n l (k - (8 * l - Bc.length)) hn hc01 hl0 hl1 (by omega)]
      generalize hw2 : World.setCell _ _ _ = w2
      have hW2 : Wr w2 p (some ⟨g, 0, none⟩) cap2 ((packN Bc l).set (l - 1) (byteOf Bc (l - 1) + n / 2 ^ (k - (8 * l - Bc.length)) % 2 ^ (8 * l - Bc.length))) Bc.length := by rw [← hw2]; exact (hWl.drewN _).setByte (l - 1) _
      have d1 := hW2.c1
      have e1 := hW2.f 1
      have HW2 : Hid _ := hw2
      clear hw2 c0 c1 f1 hcg hfg hne hW2
      go_wp2
      go_roundw
      case rel =>
       have hw2 := HW2.out
       subst hw2
       refine ⟨k - (8 * l - Bc.length), some ⟨g, 0, none⟩, Bc ++ bitsOf (n / 2 ^ (k - (8 * l - Bc.length))) (8 * l - Bc.length), by omega, by go_num, ?_, hc01.append (bitsOf_01 _ _), ?_, ?_, HM⟩
       ·exact WrB.step1 (hWl.drewN _) hl0 hl1 hl2 (n / 2 ^ (k - (8 * l - Bc.length))) _ (by omega)
       ·have := HE.out
        rw [List.append_assoc, ← bitsOf_add, show 8 * l - Bc.length + (k - (8 * l - Bc.length)) = k from by omega]
        exact this
       ·exact ((hS.drewN _).setCell _ _ (footrow hM)).setCell _ _ (.inl (.inl rfl))
      case measure => simp [intOf]; omega
   ·have hl0 : 0 < (pack Bc).length := by omega
    have hl1 : 8 * (pack Bc).length ≤ Bc.length + 8 := by omega
    have hl2 : Bc.length < 8 * (pack Bc).length := by omega
    have hWl : Wr wr p ao' cap (packN Bc (pack Bc).length) Bc.length := by rw [hpl]; exact hW
    generalize hL : (pack Bc).length = l at *
    clear hpl
    obtain ⟨g, rfl, hgp, hglt, hlc, hcm⟩ := hWl.row (by rw [packN_length]; omega)
    have c0 := hWl.c0
    have c1 := hWl.c1
    have f1 := hWl.f 1
    have hcg := hWl.cg (l - 1) (by rw [packN_length]; omega)
    have hfg := hWl.fg (l - 1)
    rw [packN_length] at c0
    have ex : (packN Bc l)[l - 1]'(by rw [packN_length]; omega) = byteOf Bc (l - 1) := by simp [packN]
    rw [ex] at hcg
    have HM := hM
    have hne : ((Bc.length : Int) == 8 * (l : Int)) = false := by simp; omega
    clear hfull hL ex hW hlc hcm hgp
    by_cases hrk : (k : Int) < 8 * (l : Int) - Bc.length
    ·go_wp2
     go_quiet (fail)
     go_wp2
     go_quiet (fail)
     go_wp2
     go_quiet (fail)
     go_wp2
     go_region
     rw [put_byte0 Bc n l k hn hc01 hl0 hl1 (by omega)]
     generalize hw2 : World.setCell _ _ _ = w2
     have hW2 : Wr w2 p (some ⟨g, 0, none⟩) cap ((packN Bc l).set (l - 1) (byteOf Bc (l - 1) + n % 2 ^ k * 2 ^ (8 * l - Bc.length - k))) Bc.length := by rw [← hw2]; exact (hWl.drewN _).setByte (l - 1) _
     have d1 := hW2.c1
     have e1 := hW2.f 1
     have HW2 : Hid _ := hw2
     clear hw2 c0 c1 f1 hcg hfg hne hW2
     go_wp2
     go_roundw
     case rel =>
      have hw2 := HW2.out
      subst hw2
      refine ⟨0, some ⟨g, 0, none⟩, Bc ++ bitsOf n k, by omega, by go_num, ?_, hc01.append (bitsOf_01 _ _), ?_, ?_, HM⟩
      ·exact WrB.step (hWl.drewN _) hl0 hl1 h0 (by omega) n _ (by omega)
      ·have := HE.out
       simpa [bitsOf] using this
      ·exact ((hS.drewN _).setCell _ _ (footrow hM)).setCell _ _ (.inl (.inl rfl))
     case measure => simp [intOf]; omega
    ·go_wp2
     go_quiet (fail)
     go_wp2
     go_quiet (fail)
     go_wp2
     go_quiet (fail)
     go_wp2
     go_region
     rw [put_byte1 Bc n l (k - (8 * l - Bc.length)) hn hc01 hl0 hl1 (by omega)]
     generalize hw2 : World.setCell _ _ _ = w2
     have hW2 : Wr w2 p (some ⟨g, 0, none⟩) cap ((packN Bc l).set (l - 1) (byteOf Bc (l - 1) + n / 2 ^ (k - (8 * l - Bc.length)) % 2 ^ (8 * l - Bc.length))) Bc.length := by rw [← hw2]; exact (hWl.drewN _).setByte (l - 1) _
     have d1 := hW2.c1
     have e1 := hW2.f 1
     have HW2 : Hid _ := hw2
     clear hw2 c0 c1 f1 hcg hfg hne hW2
     go_wp2
     go_roundw
     case rel =>
      have hw2 := HW2.out
      subst hw2
      refine ⟨k - (8 * l - Bc.length), some ⟨g, 0, none⟩, Bc ++ bitsOf (n / 2 ^ (k - (8 * l - Bc.length))) (8 * l - Bc.length), by omega, by go_num, ?_, hc01.append (bitsOf_01 _ _), ?_, ?_, HM⟩
      ·exact WrB.step1 (hWl.drewN _) hl0 hl1 hl2 (n / 2 ^ (k - (8 * l - Bc.length))) _ (by omega)
      ·have := HE.out
       rw [List.append_assoc, ← bitsOf_add, show 8 * l - Bc.length + (k - (8 * l - Bc.length)) = k from by omega]
       exact this
      ·exact ((hS.drewN _).setCell _ _ (footrow hM)).setCell _ _ (.inl (.inl rfl))
     case measure => simp [intOf]; omega
  ·obtain rfl : k = 0 := by omega
   go_wp2
   go_end0
   refine ⟨rfl, ao', ⟨cap, ?_⟩, hS, hM⟩
   have := HE.out
   simp only [bitsOf, List.append_nil] at this
   rw [← this]
   exact hW
theorem new_spec (w : World) : Calls Tryz.prog 22 #[] w fun e w' => e = .returned (.pointer (some ⟨w.heap.size, 0, none⟩)) ∧ WrB w' w.heap.size none [] ∧ w' = w.alloc (.cells #[.slice none 0 0, .int .i64 0] 105) := by
 go_enter Tryz.func22, Tryz.ntmps22
 go_wp2
 go_ret
 refine ⟨rfl, ⟨0, ?_, World.ownsRow_nil _ _ _ _, by simp [blockOf]⟩, rfl⟩
 rw [heap_alloc_new]
 rfl
theorem len_spec (p : Nat) (w : World) (ao : Option Addr) (B : List Nat) (hw : WrB w p ao B) : Calls Tryz.prog 24 #[.pointer (some ⟨p, 0, none⟩)] w fun e w' => e = .returned (.int .i64 (B.length : Int)) ∧ w' = w := by
 obtain ⟨cap, hW⟩ := hw
 have c1 := hW.c1
 go_enter Tryz.func24, Tryz.ntmps24
 go_wp2
 go_ret
 exact ⟨rfl, rfl⟩
def textOf (bs : List Nat) : ByteArray := ⟨(bs.map fun b => UInt8.ofNat b).toArray⟩
theorem textOf_eq (bs : List Nat) : textOf bs = strOfNums (bs.map fun (b : Nat) => (b : Int)) := by
 unfold textOf strOfNums
 rw [List.map_map]
 congr 2
theorem conv_row {w : World} {p : Nat} {ao : Option Addr} {cap : Nat} {bs : List Nat} {cnt : Nat} (h : Wr w p ao cap bs cnt) :
  (convert 103 9 (.slice ao bs.length cap)).run Tryz.prog w = .ok (.string (textOf bs)) w := by
 by_cases h0 : 0 < bs.length
 ·obtain ⟨g, rfl, _⟩ := h.row h0
  rw [textOf_eq]
  refine run_convert_bytes_arg w 103 5 Tryz.underlying103 Tryz.underlying5 g 0 bs.length cap _ (by simp) (fun i hi => ?_) 9 Tryz.underlying9
  rw [Nat.zero_add, h.cg i hi]
  simp [List.getD, hi]
 ·have hb : bs = [] := List.eq_nil_of_length_eq_zero (by omega)
  subst hb
  cases ao with
  | none => exact run_convert_bytes_nil w 103 5 Tryz.underlying103 Tryz.underlying5 _ _ 9 Tryz.underlying9
  | some a =>
   obtain ⟨ao1, cap1, hv, _, _, _, hs⟩ := owns_shape h.own
   simp only [Value.slice.injEq, true_and] at hv
   obtain ⟨rfl, rfl⟩ := hv
   obtain ⟨g, rfl⟩ : ∃ g, a = ⟨g, 0, none⟩ := ⟨_, (hs a rfl).1⟩
   exact run_convert_bytes_arg w 103 5 Tryz.underlying103 Tryz.underlying5 g 0 0 cap [] rfl (fun i hi => by omega) 9 Tryz.underlying9
theorem bytes_spec (p : Nat) (w : World) (ao : Option Addr) (B : List Nat) (h01 : Bits01 B) (hB : B.length ≤ 10000000000000) (hw : WrB w p ao B) : Calls Tryz.prog 55 #[.pointer (some ⟨p, 0, none⟩)] w fun e w' => e = .returned (.string (textOf (pack B))) ∧ w' = w := by
 obtain ⟨cap, hW⟩ := hw
 have hcv := conv_row hW
 have c0 := hW.c0
 clear hW hB
 go_enter Tryz.func55, Tryz.ntmps55
 go_wp2
 go_ret
 exact ⟨rfl, rfl⟩
theorem put_ok (p n k : Nat) (hk : k ≤ 64) (hn : n < 2 ^ k) (w : World) (ao : Option Addr) (B : List Nat) (h01 : Bits01 B) (hB : B.length ≤ 10000000000000) (hw : WrB w p ao B) :
  Calls Tryz.prog 53 #[.pointer (some ⟨p, 0, none⟩), .int .u64 (n : Int), .int .i64 (k : Int)] w fun e w' =>
   e = .returned (.int .i64 0) ∧ ∃ ao', WrB w' p ao' (B ++ bitsOf n k) ∧ Stays (foot p ao) w w' ∧ Moved w.heap.size ao ao' := by
 have h64 : n < 18446744073709551616 := Nat.lt_of_lt_of_le hn (pow_le_of k 64 hk)
 have hz : (n : Int) / 2 ^ k = 0 := by
  have : n / 2 ^ k = 0 := Nat.div_eq_of_lt hn
  have e : (n : Int) / 2 ^ k = ((n / 2 ^ k : Nat) : Int) := by simp
  rw [e, this]; rfl
 go_enter Tryz.func53, Tryz.ntmps53
 go_wp2_with (go_at_call 107; refine (put_spec p n k h64 hk w ao B h01 hB hw).mono ?_; rintro e w' ⟨rfl, ao', h1, h2, h3⟩)
 go_ret
 exact ⟨rfl, ao', h1, h2, h3⟩
theorem put_bad (p : Nat) (n k : Int) (hn : 0 ≤ n) (hn2 : n < 18446744073709551616) (hbad : k < 0 ∨ 64 < k ∨ (0 ≤ k ∧ k ≤ 64 ∧ 2 ^ k.toNat ≤ n)) (w : World) :
  Calls Tryz.prog 53 #[.pointer (some ⟨p, 0, none⟩), .int .u64 n, .int .i64 k] w fun e w' => e = .returned (.int .i64 11) ∧ w' = w := by
 rcases hbad with h | h | ⟨h1, h2, h3⟩
 ·go_enter Tryz.func53, Tryz.ntmps53
  go_wp2
  go_ret
  exact ⟨rfl, rfl⟩
 ·go_enter Tryz.func53, Tryz.ntmps53
  go_wp2
  go_ret
  exact ⟨rfl, rfl⟩
 ·have hp : 0 < (2 : Int) ^ k.toNat := Int.pow_pos (by decide)
  have hq : 1 ≤ n / 2 ^ k.toNat := Int.le_ediv_of_mul_le hp (by omega)
  have hz : (n / 2 ^ k.toNat != 0) = true := by simp; omega
  clear hq hp
  go_enter Tryz.func53, Tryz.ntmps53
  go_wp2
  go_ret
  exact ⟨rfl, rfl⟩
theorem unary_spec (p n : Nat) (hn : n ≤ 16777216) (w : World) (ao : Option Addr) (B : List Nat) (h01 : Bits01 B) (hB : B.length ≤ 9000000000000) (hw : WrB w p ao B) :
  Calls Tryz.prog 175 #[.pointer (some ⟨p, 0, none⟩), .int .i64 (n : Int)] w fun e w' =>
   e = .returned (.tuple #[]) ∧ ∃ ao', WrB w' p ao' (B ++ List.replicate n 0 ++ [1]) ∧ Stays (foot p ao) w w' ∧ Moved w.heap.size ao ao' := by
 obtain ⟨i0, hi, hz0, hz1, hz2⟩ := info_parts Tryz.info5
 obtain ⟨cap, hW⟩ := hw
 have c0 := hW.c0
 have c1 := hW.c1
 have f1 := hW.f 1
 have hpl := pack_length B
 generalize hL : (pack B).length = l at *
 have HP : Hid _ := hpl
 have HL : Hid _ := hL
 have hl8 : 8 * l < B.length + 8 := by omega
 have hl9 : B.length ≤ 8 * l := by omega
 obtain ⟨m, hm⟩ : ∃ m : Nat, l + m = (B.length + n + 7) / 8 := ⟨(B.length + n + 7) / 8 - l, by omega⟩
 have hmi : ((B.length : Int) + (n : Int) + 7) / 8 - (l : Int) = (m : Int) := by omega
 have hml : l + m ≤ 2000000000000 := by omega
 have HM : Hid _ := hm
 have HI : Hid _ := hmi
 clear hpl hL hm hmi
 go_enter Tryz.func175, Tryz.ntmps175
 go_wp2
 generalize hwx : World.setCell _ _ _ = wx
 have hWx : Wr wx p ao cap (pack B) (B.length + n) := by
  rw [← hwx]
  have := hW.setCount (B.length + n)
  simpa using this
 have hSx : Stays (foot p ao) w wx := by rw [← hwx]; exact (Stays.refl _ _).setCell _ _ (.inl (.inl rfl))
 have hsz : wx.heap.size = w.heap.size := by rw [← hwx]; simp [World.setCell]
 have HZ : Hid _ := hsz
 clear hwx hsz c0 c1 f1 hW
 have c0 := hWx.c0
 have c1 := hWx.c1
 have b0 := hWx.f 0
 have hown := hWx.own
 rw [HL.out] at c0 hown
 have ei : ((B.length + n : Nat) : Int) = (B.length : Int) + (n : Int) := by omega
 rw [ei] at c1
 clear ei
 go_quiet (fail)
 rw [HI.out]
 go_wp2_with (at_builtin; refine wpList_append_zeros _ rfl _ _ 103 3 rfl 5 i0 (.int .u8 0) 1 Tryz.underlying103 Tryz.underlying3 hi hz0 hz1 hz2 rfl rfl ao cap l _ rfl (owns_drewN hown _) m rfl ?cc ?cd ?ce)
 case cc => unfold maxLen; omega
 case cd => omega
 case ce =>
  intro ao2 cap2 w1 hown2 hgr hmv
  have hWd := hWx.drewN nq
  have q0 : w1.cell? ⟨p, 0, none⟩ = some (.slice ao l cap) := by
   rw [World.cell?_of_block (hgr.block p hWd.lt (fun e => hWx.ne e.symm)), hWd.c0, HL.out]
  have qf : w1.frozen? ⟨p, 0, none⟩ = false := by
   rw [World.frozen?_of_block (hgr.block p hWd.lt (fun e => hWx.ne e.symm)), hWd.f 0]
  have hW2 : WrB (w1.setCell ⟨p, 0, none⟩ (.slice ao2 (l + m) cap2)) p ao2 (B ++ List.replicate n 0) := by
   refine ⟨cap2, ?_⟩
   have e : pack (B ++ List.replicate n 0) = pack B ++ List.replicate m 0 := by
    unfold pack
    rw [packN_zeros, List.length_append, List.length_replicate, ← HM.out, ← HP.out]
    exact packN_past B l m hl9
   rw [e, List.length_append, List.length_replicate]
   refine hWd.setSlice hgr (by simpa using hmv) (l + m) (by rw [List.length_append, List.length_replicate, HL.out]) ?_
   rw [byteVals_append, byteVals_zeros]
   exact hown2
  have hS2 : Stays (foot p ao) w (w1.setCell ⟨p, 0, none⟩ (.slice ao2 (l + m) cap2)) := by
   have s1 : Stays (foot p ao) wx w1 := ⟨hgr.os, hgr.tape, hgr.output, hgr.size, fun k hk hs => hgr.block k hk (fun e => hs (.inr e.symm))⟩
   exact (hSx.trans s1 (fun _ _ h => h)).setCell _ _ (.inl (.inl rfl))
  have hM2 : Moved w.heap.size ao ao2 := by
   have := hmv
   simp only [World.heap_drewN, HZ.out] at this
   exact this
  clear hown2 hgr hmv hWd hWx c0 c1 b0 hown hSx
  go_wp2_with (go_at_call 107; refine (put_spec p 1 1 (by decide) (by decide) _ ao2 (B ++ List.replicate n 0) (h01.append (Bits01.zeros n)) (by simp; omega) hW2).mono ?_; rintro e w' ⟨rfl, ao', h1, h2, h3⟩)
  go_end0
  refine ⟨rfl, ao', h1, hS2.foot h2 hM2, hM2.trans h3 ?_⟩
  exact hS2.size
def sbits (l : List Nat) : List Nat := l.flatMap fun b => bitsOf b 8
theorem sbits_length (l : List Nat) : (sbits l).length = 8 * l.length := by
 induction l with
 | nil => rfl
 | cons b t ih =>
  have : sbits (b :: t) = bitsOf b 8 ++ sbits t := rfl
  rw [this, List.length_append, ih, bitsOf_length, List.length_cons]
  omega
theorem sbits_01 (l : List Nat) : Bits01 (sbits l) := by
 intro b hb
 obtain ⟨x, _, hx⟩ := List.mem_flatMap.1 hb
 exact bitsOf_01 x 8 b hx
theorem sbits_drop (l : List Nat) (i : Nat) (h : i < l.length) : (sbits l).drop (8 * i) = bitsOf l[i] 8 ++ (sbits l).drop (8 * (i + 1)) := by
 induction l generalizing i with
 | nil => simp at h
 | cons b t ih =>
  have e : sbits (b :: t) = bitsOf b 8 ++ sbits t := rfl
  cases i with
  | zero =>
   rw [e]
   simp only [Nat.mul_zero, List.drop_zero, List.getElem_cons_zero, Nat.zero_add, Nat.mul_one]
   rw [List.drop_append, List.drop_eq_nil_of_le (by rw [bitsOf_length]; omega), bitsOf_length]
   simp
  | succ i =>
   have h' : i < t.length := by simpa using h
   have hd : ∀ j, (sbits (b :: t)).drop (8 * (j + 1)) = (sbits t).drop (8 * j) := by
    intro j
    rw [e, List.drop_append, List.drop_eq_nil_of_le (by rw [bitsOf_length]; omega), bitsOf_length, List.nil_append]
    congr 1
   rw [hd, hd, ih i h']
   rfl
theorem sbits_part (l : List Nat) (at_ part : Nat) (h : at_ / 8 < l.length) (hp : at_ % 8 + part ≤ 8) :
  ((sbits l).drop at_).take part = bitsOf (l[at_ / 8] / 2 ^ (8 - at_ % 8 - part)) part := by
 have e : at_ = 8 * (at_ / 8) + at_ % 8 := by omega
 have h1 : (sbits l).drop at_ = ((sbits l).drop (8 * (at_ / 8))).drop (at_ % 8) := by rw [List.drop_drop, ← e]
 rw [h1, sbits_drop l _ h]
 generalize l[at_ / 8] = b
 generalize hX : (sbits l).drop (8 * (at_ / 8 + 1)) = X
 generalize at_ % 8 = r at *
 have h2 : bitsOf b 8 = bitsOf (b / 2 ^ (8 - r)) r ++ bitsOf b (8 - r) := by
  have := bitsOf_add b r (8 - r)
  rwa [show r + (8 - r) = 8 from by omega] at this
 have h3 : bitsOf b (8 - r) = bitsOf (b / 2 ^ (8 - r - part)) part ++ bitsOf b (8 - r - part) := by
  have := bitsOf_add b part (8 - r - part)
  rwa [show part + (8 - r - part) = 8 - r from by omega] at this
 rw [h2, List.append_assoc, List.drop_append, List.drop_eq_nil_of_le (by rw [bitsOf_length]; omega), bitsOf_length, Nat.sub_self, List.drop_zero, List.nil_append, h3, List.append_assoc, List.take_append,
  List.take_of_length_le (by rw [bitsOf_length]; omega), bitsOf_length, Nat.sub_self, List.take_zero, List.append_nil]
def bytesOf (s : ByteArray) : List Nat := s.data.toList.map UInt8.toNat
theorem bytesOf_length (s : ByteArray) : (bytesOf s).length = s.size := by
 unfold bytesOf
 rw [List.length_map]
 rfl
theorem bytesOf_get (s : ByteArray) (i : Nat) (h : i < s.size) : (bytesOf s)[i]'(by rw [bytesOf_length]; exact h) = (s[i]'h).toNat := by
 unfold bytesOf
 rw [List.getElem_map]
 rfl
def bitsAt (s : ByteArray) (at_ k : Nat) : Nat := num (((sbits (bytesOf s)).drop at_).take k)
theorem bitsAt_lt (s : ByteArray) (at_ k : Nat) : bitsAt s at_ k < 2 ^ k := by
 have h := num_lt _ (((sbits_01 (bytesOf s)).drop at_).take k)
 refine Nat.lt_of_lt_of_le h (pow_le_of _ _ ?_)
 rw [List.length_take]
 omega
theorem bitsAt_add (s : ByteArray) (at_ j t : Nat) (h : at_ + j + t ≤ 8 * s.size) : bitsAt s at_ (j + t) = bitsAt s at_ j * 2 ^ t + bitsAt s (at_ + j) t := by
 unfold bitsAt
 rw [List.take_add, num_append, List.drop_drop]
 congr 3
 rw [List.length_take, List.length_drop, sbits_length, bytesOf_length]
 omega
theorem bitsAt_byte (s : ByteArray) (b c t : Nat) (hb : b < s.size) (h : c + t ≤ 8) (hc : c < 8) : bitsAt s (8 * b + c) t = (s[b]'hb).toNat / 2 ^ (8 - c - t) % 2 ^ t := by
 have e1 : (8 * b + c) / 8 = b := by omega
 have e2 : (8 * b + c) % 8 = c := by omega
 unfold bitsAt
 rw [sbits_part (bytesOf s) (8 * b + c) t (by rw [bytesOf_length, e1]; exact hb) (by omega), num_bitsOf]
 simp only [e1, e2, bytesOf_get s b hb]
theorem take_part (s : ByteArray) (at_ j t b c : Nat) (ha : at_ + j = 8 * b + c) (hb : b < s.size) (h : c + t ≤ 8) (hc : c < 8) (hj : j + t ≤ 64) :
  bits BinOp.or IntKind.u64 (IntKind.u64.wrap ((bitsAt s at_ j : Int) * 2 ^ t)) (bits BinOp.and IntKind.u64 (IntKind.u64.wrap (((s[b]'hb).toNat : Nat) : Int) / 2 ^ (8 - c - t)) (IntKind.u64.wrap (IntKind.u64.wrap (2 ^ t) - 1)))
   = (bitsAt s at_ (j + t) : Int) := by
 have h0 := bitsAt_lt s at_ j
 have hm : bitsAt s at_ j * 2 ^ t < 2 ^ j * 2 ^ t := Nat.mul_lt_mul_of_pos_right h0 (Nat.two_pow_pos t)
 rw [← Nat.pow_add] at hm
 have h64 : (2 : Nat) ^ (j + t) ≤ 2 ^ 64 := pow_le_of _ 64 hj
 have hx : (s[b]'hb).toNat < 256 := UInt8.toNat_lt _
 have hd : (s[b]'hb).toNat / 2 ^ (8 - c - t) ≤ (s[b]'hb).toNat := Nat.div_le_self _ _
 have ew : IntKind.u64.wrap (((s[b]'hb).toNat : Nat) : Int) / 2 ^ (8 - c - t) = (((s[b]'hb).toNat / 2 ^ (8 - c - t) : Nat) : Int) := by
  have : IntKind.u64.wrap (((s[b]'hb).toNat : Nat) : Int) = (((s[b]'hb).toNat : Nat) : Int) := by rw [IntKind.wrap_u64]; omega
  rw [this]
  simp
 rw [ew, or_u64 _ _ t (by omega) (by omega) (by omega), bitsAt_add s at_ j t (by omega), ha, bitsAt_byte s b c t hb h hc]
def Rd (w : World) (q : Nat) (s : ByteArray) (at_ : Nat) : Prop := w.heap[q]? = some (.cells #[.int .i64 (at_ : Int), .int .i64 (8 * (s.size : Int)), .string s] 144 (0, 0))
section
variable {w : World} {q : Nat} {s : ByteArray} {at_ : Nat}
theorem Rd.c0 (h : Rd w q s at_) : w.cell? ⟨q, 0, none⟩ = some (.int .i64 (at_ : Int)) := by unfold Rd at h; simp [World.cell?, h]
theorem Rd.c1 (h : Rd w q s at_) : w.cell? ⟨q, 1, none⟩ = some (.int .i64 (8 * (s.size : Int))) := by unfold Rd at h; simp [World.cell?, h]
theorem Rd.c2 (h : Rd w q s at_) : w.cell? ⟨q, 2, none⟩ = some (.string s) := by unfold Rd at h; simp [World.cell?, h]
theorem Rd.f (h : Rd w q s at_) (o : Nat) : w.frozen? ⟨q, o, none⟩ = false := by unfold Rd at h; simp [World.frozen?, h]
theorem Rd.drewN (h : Rd w q s at_) (n : Nat) : Rd (w.drewN n) q s at_ := h
theorem Rd.set (h : Rd w q s at_) (x : Nat) : Rd (w.setCell ⟨q, 0, none⟩ (.int .i64 (x : Int))) q s x := by
 unfold Rd at h ⊢
 rw [block_setCell w q 0 _ _ _ h]
 simp
end
def only (q : Nat) : Nat → Prop := fun k => k = q
theorem of_spec (s : ByteArray) (hs : s.size ≤ 1000000000000000000) (w : World) : Calls Tryz.prog 56 #[.string s] w fun e w' => e = .returned (.pointer (some ⟨w.heap.size, 0, none⟩)) ∧ Rd w' w.heap.size s 0 ∧ Below w.heap.size w w' := by
 go_enter Tryz.func56, Tryz.ntmps56
 go_wp2
 go_ret
 refine ⟨rfl, ?_, (Below.refl _ _).alloc (Nat.le_refl _) _⟩
 unfold Rd
 rw [heap_alloc_new]
 rfl
theorem passed_spec (q : Nat) (s : ByteArray) (at_ : Nat) (w : World) (h : Rd w q s at_) : Calls Tryz.prog 120 #[.pointer (some ⟨q, 0, none⟩)] w fun e w' => e = .returned (.int .i64 (at_ : Int)) ∧ w' = w := by
 have c0 := h.c0
 go_enter Tryz.func120, Tryz.ntmps120
 go_wp2
 go_ret
 exact ⟨rfl, rfl⟩
theorem rest_spec (q : Nat) (s : ByteArray) (hs : s.size ≤ 1000000000000000000) (at_ : Nat) (ha : at_ ≤ 8 * s.size) (w : World) (h : Rd w q s at_) : Calls Tryz.prog 185 #[.pointer (some ⟨q, 0, none⟩)] w fun e w' => e = .returned (.int .i64 (8 * (s.size : Int) - (at_ : Int))) ∧ ∃ n, w' = w.drewN n := by
 have c0 := h.c0
 have c1 := h.c1
 go_enter Tryz.func185, Tryz.ntmps185
 go_wp2
 go_quiet (fail)
 go_wp2
 go_ret
 exact ⟨rfl, _, rfl⟩
theorem pass_spec (q : Nat) (s : ByteArray) (hs : s.size ≤ 1000000000000000000) (at_ k : Nat) (hk : at_ + k ≤ 8 * s.size) (w : World) (h : Rd w q s at_) : Calls Tryz.prog 213 #[.pointer (some ⟨q, 0, none⟩), .int .i64 (k : Int)] w fun e w' => e = .returned (.tuple #[]) ∧ Rd w' q s (at_ + k) ∧ Stays (only q) w w' := by
 have c0 := h.c0
 have f0 := h.f 0
 go_enter Tryz.func213, Tryz.ntmps213
 go_wp2
 go_end0
 refine ⟨rfl, ?_, (Stays.refl _ _).setCell _ _ (.inl rfl)⟩
 have := h.set (at_ + k)
 simpa using this
theorem left_spec (q : Nat) (s : ByteArray) (hs : s.size ≤ 1000000000000000000) (at_ : Nat) (ha : at_ ≤ 8 * s.size) (w : World) (h : Rd w q s at_) : Calls Tryz.prog 161 #[.pointer (some ⟨q, 0, none⟩)] w fun e w' => e = .returned (.int .i64 (8 * (s.size : Int) - (at_ : Int))) ∧ ∃ n, w' = w.drewN n := by
 go_enter Tryz.func161, Tryz.ntmps161
 go_wp2_with (go_at_call 185; refine (rest_spec q s hs at_ ha w h).mono ?_; rintro e w' ⟨rfl, n, rfl⟩)
 go_ret
 exact ⟨rfl, n, rfl⟩
theorem take_spec (q : Nat) (s : ByteArray) (hs : s.size ≤ 1000000000000000000) (at_ k : Nat) (hk : at_ + k ≤ 8 * s.size) (hk64 : k ≤ 64) (w : World) (h : Rd w q s at_) :
  Calls Tryz.prog 167 #[.pointer (some ⟨q, 0, none⟩), .int .i64 (k : Int)] w fun e w' => e = .returned (.int .u64 (bitsAt s at_ k : Int)) ∧ Rd w' q s (at_ + k) ∧ Stays (only q) w w' := by
 go_enter Tryz.func167, Tryz.ntmps167
 go_wp2
 go_loopw [1, 5] (fun t u wr => ∃ (j : Nat), j ≤ k ∧ t = .int .i64 ((k - j : Nat) : Int) ∧ u = .int .u64 (bitsAt s at_ j : Int) ∧ Rd wr q s (at_ + j) ∧ Stays (only q) w wr) (fun t _ _ => (intOf t).toNat)
 case atStart => exact ⟨0, Nat.zero_le _, rfl, rfl, h, Stays.refl _ _⟩
 case round =>
  obtain ⟨j, hj, rfl, rfl, hR, hS⟩ := hrel
  by_cases hlt : j < k
  ·obtain ⟨r, hr⟩ : ∃ r, r = k - j := ⟨_, rfl⟩
   rw [← hr]
   obtain ⟨a, ha⟩ : ∃ a, a = at_ + j := ⟨_, rfl⟩
   rw [← ha] at hR
   have hr0 : 0 < r := by omega
   have har : a + r ≤ 8 * s.size := by omega
   have HR : Hid _ := hr
   have HA : Hid _ := ha
   have hr64 : r ≤ 64 := by omega
   obtain ⟨b, c, hbc, hc8⟩ : ∃ b c : Nat, a = 8 * b + c ∧ c < 8 := ⟨a / 8, a % 8, by omega, by omega⟩
   have hand : bits BinOp.and IntKind.i64 (a : Int) 7 = (c : Int) := by rw [i64_and7]; omega
   have hdiv : (a : Int) / 8 = (b : Int) := by omega
   have hbs : b < s.size := by omega
   have HBC : Hid _ := hbc
   clear hr ha h hk hj hlt hbc
   have c2 := hR.c2
   by_cases hrc : (r : Int) < 8 - (c : Int)
   ·go_wp2_with (go_at_call 120; refine (passed_spec q s a wr hR).mono ?_; rintro e w' ⟨rfl, rfl⟩)
    go_quiet ((go_at_call 120; exact Calls.quiet_of_same (passed_spec q s a _ hR)))
    go_wp2
    go_quiet (fail)
    rw [take_part s at_ j r b c (by rw [← HA.out, HBC.out]) hbs (by omega) hc8 (by have := HR.out; omega)]
    clear hand hdiv c2
    go_wp2_with (go_at_call 213; refine (pass_spec q s hs a r (by omega) _ (hR.drewN _)).mono ?_; rintro e w2 ⟨rfl, hR2, hS2⟩)
    go_roundw
    case rel =>
     have e1 := HR.out
     have e2 := HA.out
     refine ⟨j + r, by omega, ?_, rfl, ?_, ?_⟩
     ·rw [show k - (j + r) = 0 from by omega]; go_num
     ·rw [← Nat.add_assoc, ← e2]; exact hR2
     ·exact (hS.drewN _).trans hS2 (fun _ _ h => h)
    case measure => simp [intOf]; omega
   ·go_wp2_with (go_at_call 120; refine (passed_spec q s a wr hR).mono ?_; rintro e w' ⟨rfl, rfl⟩)
    go_quiet ((go_at_call 120; exact Calls.quiet_of_same (passed_spec q s a _ hR)))
    go_wp2
    go_quiet (fail)
    have htp := take_part s at_ j (8 - c) b c (by rw [← HA.out, HBC.out]) hbs (by omega) hc8 (by have := HR.out; omega)
    rw [Nat.sub_self, Int.pow_zero, Int.ediv_one] at htp
    rw [htp]
    clear hand hdiv c2 htp
    obtain ⟨d, hd⟩ : ∃ d : Nat, d = 8 - c := ⟨_, rfl⟩
    have hdi : (8 : Int) - (c : Int) = (d : Int) := by omega
    rw [hdi, ← hd]
    have hdr : d ≤ r := by omega
    have hd0 : 0 < d := by omega
    have HD : Hid _ := hd
    clear hd hdi hrc
    go_wp2_with (go_at_call 213; refine (pass_spec q s hs a d (by omega) _ (hR.drewN _)).mono ?_; rintro e w2 ⟨rfl, hR2, hS2⟩)
    go_roundw
    case rel =>
     have e1 := HR.out
     have e2 := HA.out
     refine ⟨j + d, by omega, ?_, rfl, ?_, ?_⟩
     ·rw [show k - (j + d) = r - d from by omega]; go_num
     ·rw [← Nat.add_assoc, ← e2]; exact hR2
     ·exact (hS.drewN _).trans hS2 (fun _ _ h => h)
    case measure => simp [intOf]; omega
  ·obtain rfl : j = k := by omega
   rw [Nat.sub_self]
   go_wp2
   go_ret
   exact ⟨rfl, hR, hS⟩
theorem ret_int {k : IntKind} {a b : Int} (h : a = b) : Ending.returned (.int k a) = .returned (.int k b) := by rw [h]
def foldN (n : Int) : Nat := if 0 ≤ n then (2 * n).toNat else (-(2 * n) - 1).toNat
theorem foldN_pos (n : Int) (h : 0 ≤ n) : (foldN n : Int) = 2 * n := by unfold foldN; rw [if_pos h]; omega
theorem foldN_neg (n : Int) (h : n < 0) : (foldN n : Int) = -(2 * n) - 1 := by unfold foldN; rw [if_neg (by omega)]; omega
theorem foldN_lt (n : Int) (h1 : -9223372036854775808 ≤ n) (h2 : n ≤ 9223372036854775807) : foldN n < 18446744073709551616 := by
 by_cases h : 0 ≤ n
 ·have := foldN_pos n h; omega
 ·have := foldN_neg n (by omega); omega
theorem xor_ones (x : Nat) (h : x < 18446744073709551616) : x ^^^ 18446744073709551615 = 18446744073709551615 - x := by
 apply Nat.eq_of_testBit_eq
 intro i
 have e : (18446744073709551615 : Nat) - x = 2 ^ 64 - (x + 1) := by omega
 rw [e, Nat.testBit_two_pow_sub_succ (by omega), Nat.testBit_xor, show (18446744073709551615 : Nat) = 2 ^ 64 - 1 from rfl, Nat.testBit_two_pow_sub_one]
 by_cases hi : i < 64
 ·simp [hi]
 ·have : x.testBit i = false := Nat.testBit_lt_two_pow (Nat.lt_of_lt_of_le h (Nat.pow_le_pow_right (n := 2) (by decide) (show 64 ≤ i by omega)))
  simp [hi, this]
theorem folded_spec (n : Int) (h1 : -9223372036854775808 ≤ n) (h2 : n ≤ 9223372036854775807) (w : World) :
  Calls Tryz.prog 237 #[.int .i64 n] w fun e w' => e = .returned (.int .u64 (foldN n : Int)) ∧ w' = w := by
 by_cases h0 : 0 ≤ n
 ·go_enter Tryz.func237, Tryz.ntmps237
  go_wp2
  go_ret
  refine ⟨ret_int ?_, rfl⟩
  rw [foldN_pos n h0, show n / 9223372036854775808 = ((0 : Nat) : Int) from by omega, show n * 2 = (((2 * n).toNat : Nat) : Int) from by omega, u64_xor_nat _ _ (by omega) (by omega), Nat.xor_zero]
  omega
 ·go_enter Tryz.func237, Tryz.ntmps237
  go_wp2
  go_ret
  refine ⟨ret_int ?_, rfl⟩
  have e1 : IntKind.u64.wrap (IntKind.u64.wrap n * 2) = (((18446744073709551616 + 2 * n).toNat : Nat) : Int) := by
   rw [IntKind.wrap_u64, IntKind.wrap_u64]; omega
  have e2 : IntKind.u64.wrap (n / 9223372036854775808) = ((18446744073709551615 : Nat) : Int) := by
   rw [IntKind.wrap_u64]; omega
  rw [foldN_neg n (by omega), e1, e2, u64_xor_nat _ _ (by omega) (by omega), xor_ones _ (by omega)]
  omega
theorem rice_width (p : Nat) (n k : Int) (hk : k < 0 ∨ 30 < k) (w : World) : Calls Tryz.prog 224 #[.pointer (some ⟨p, 0, none⟩), .int .i64 n, .int .i64 k] w fun e w' => e = .returned (.int .i64 11) ∧ w' = w := by
 rcases hk with hk | hk
 ·go_enter Tryz.func224, Tryz.ntmps224
  go_wp2
  go_ret
  exact ⟨rfl, rfl⟩
 ·go_enter Tryz.func224, Tryz.ntmps224
  go_wp2
  go_ret
  exact ⟨rfl, rfl⟩
theorem div_cast (x k : Nat) : (x : Int) / 2 ^ k = ((x / 2 ^ k : Nat) : Int) := by simp
theorem rice_long (p : Nat) (n : Int) (h1 : -9223372036854775808 ≤ n) (h2 : n ≤ 9223372036854775807) (k : Nat) (hk : k ≤ 30) (hl : 16777216 < foldN n / 2 ^ k) (w : World) :
  Calls Tryz.prog 224 #[.pointer (some ⟨p, 0, none⟩), .int .i64 n, .int .i64 (k : Int)] w fun e w' => e = .returned (.int .i64 11) ∧ w' = w := by
 have hq : (16777216 : Int) < (foldN n : Int) / 2 ^ k := by rw [div_cast]; omega
 go_enter Tryz.func224, Tryz.ntmps224
 go_wp2_with (go_at_call 237; refine (folded_spec n h1 h2 w).mono ?_; rintro e w' ⟨rfl, rfl⟩)
 go_ret
 exact ⟨rfl, rfl⟩
theorem rice_ok (p : Nat) (n : Int) (h1 : -9223372036854775808 ≤ n) (h2 : n ≤ 9223372036854775807) (k : Nat) (hk : k ≤ 30) (hl : foldN n / 2 ^ k ≤ 16777216)
  (w : World) (ao : Option Addr) (B : List Nat) (h01 : Bits01 B) (hB : B.length ≤ 9000000000000) (hw : WrB w p ao B) :
  Calls Tryz.prog 224 #[.pointer (some ⟨p, 0, none⟩), .int .i64 n, .int .i64 (k : Int)] w fun e w' =>
   e = .returned (.int .i64 0) ∧ ∃ ao', WrB w' p ao' (B ++ List.replicate (foldN n / 2 ^ k) 0 ++ [1] ++ bitsOf (foldN n) k) ∧ Stays (foot p ao) w w' ∧ Moved w.heap.size ao ao' := by
 obtain ⟨q, hq⟩ : ∃ q, q = foldN n / 2 ^ k := ⟨_, rfl⟩
 have hqi : (foldN n : Int) / 2 ^ k = (q : Int) := by rw [div_cast, hq]
 rw [← hq] at hl ⊢
 have hf := foldN_lt n h1 h2
 have HQ : Hid _ := hq
 clear hq
 go_enter Tryz.func224, Tryz.ntmps224
 go_wp2_with (first | (go_at_call 237; refine (folded_spec n h1 h2 w).mono ?_; rintro e w' ⟨rfl, rfl⟩) | (go_at_call 175; refine (unary_spec p q hl _ ao B h01 hB hw).mono ?_; rintro e w1 ⟨rfl, ao1, hw1, hs1, hm1⟩))
 have h01' : Bits01 (B ++ List.replicate q 0 ++ [1]) := (h01.append (Bits01.zeros q)).append (by intro b hb; simp at hb; omega)
 have hB' : (B ++ List.replicate q 0 ++ [1]).length ≤ 10000000000000 := by simp; omega
 refine (put_spec p (foldN n) k hf (by omega) _ ao1 _ h01' hB' hw1).mono ?_
 rintro e w2 ⟨rfl, ao2, hw2, hs2, hm2⟩
 go_wp2
 go_ret
 exact ⟨rfl, ao2, hw2, hs1.foot hs2 hm1, hm1.trans hm2 hs1.size⟩
def lead (L : List Nat) : Nat := (L.takeWhile (· == 0)).length
def ahead (s : ByteArray) (at_ : Nat) : List Nat := (sbits (bytesOf s)).drop at_
theorem ahead_length (s : ByteArray) (at_ : Nat) : (ahead s at_).length = 8 * s.size - at_ := by
 unfold ahead
 rw [List.length_drop, sbits_length, bytesOf_length]
theorem get_width (q : Nat) (k : Int) (hk : k < 0 ∨ 64 < k) (w : World) : Calls Tryz.prog 136 #[.pointer (some ⟨q, 0, none⟩), .int .i64 k] w fun e w' => e = .returned (.tuple #[.int .u64 0, .int .i64 11]) ∧ w' = w := by
 rcases hk with hk | hk
 ·go_enter Tryz.func136, Tryz.ntmps136
  go_wp2
  go_ret2
  exact ⟨rfl, rfl⟩
 ·go_enter Tryz.func136, Tryz.ntmps136
  go_wp2
  go_ret2
  exact ⟨rfl, rfl⟩
theorem get_end (q : Nat) (s : ByteArray) (hs : s.size ≤ 1000000000000000000) (at_ : Nat) (ha : at_ ≤ 8 * s.size) (k : Nat) (hk : k ≤ 64) (he : 8 * s.size < at_ + k) (w : World) (h : Rd w q s at_) :
  Calls Tryz.prog 136 #[.pointer (some ⟨q, 0, none⟩), .int .i64 (k : Int)] w fun e w' => e = .returned (.tuple #[.int .u64 0, .int .i64 10]) ∧ ∃ n, w' = w.drewN n := by
 go_enter Tryz.func136, Tryz.ntmps136
 go_wp2_with (go_at_call 185; refine (rest_spec q s hs at_ ha _ h).mono ?_; rintro e w' ⟨rfl, n1, rfl⟩)
 go_ret2
 exact ⟨rfl, _, rfl⟩
theorem get_ok (q : Nat) (s : ByteArray) (hs : s.size ≤ 1000000000000000000) (at_ : Nat) (k : Nat) (hk : k ≤ 64) (he : at_ + k ≤ 8 * s.size) (w : World) (h : Rd w q s at_) :
  Calls Tryz.prog 136 #[.pointer (some ⟨q, 0, none⟩), .int .i64 (k : Int)] w fun e w' => e = .returned (.tuple #[.int .u64 (bitsAt s at_ k : Int), .int .i64 0]) ∧ Rd w' q s (at_ + k) ∧ Stays (only q) w w' := by
 go_enter Tryz.func136, Tryz.ntmps136
 go_wp2_with (first | (go_at_call 185; refine (rest_spec q s hs at_ (by omega) _ h).mono ?_; rintro e w' ⟨rfl, n1, rfl⟩) | (go_at_call 167; refine (take_spec q s hs at_ k he hk _ (h.drewN _)).mono ?_; rintro e w2 ⟨rfl, hR2, hS2⟩))
 go_ret2
 exact ⟨rfl, hR2, ((Stays.refl _ _).drewN n1).trans hS2 (fun _ _ h => h)⟩
theorem WrB.only {w w' : World} {p q : Nat} {ao : Option Addr} {B : List Nat} (h : WrB w p ao B) (hS : Stays (only q) w w') (hp : p ≠ q) (hb : ∀ b, blockOf ao = some b → b ≠ q) : WrB w' p ao B :=
 h.stays hS hp hb
theorem WrB.below {w w' : World} {p : Nat} {ao : Option Addr} {B : List Nat} (h : WrB w p ao B) (hS : Below w.heap.size w w') : WrB w' p ao B :=
 h.stays (Stays.of_below hS (fun _ => False)) (fun h => h) (fun _ _ h => h)
theorem foot_below {N p : Nat} {ao : Option Addr} {w w' : World} (h : Stays (foot p ao) w w') (hN : N ≤ w.heap.size) (hp : N ≤ p) (ha : ∀ b, blockOf ao = some b → N ≤ b) : Below N w w' :=
 h.below hN (fun i hi hf => by
  rcases hf with hf | hf
  ·omega
  ·have := ha i hf; omega)
theorem ret_bool {a b : Bool} (h : a = b) : Ending.returned (.bool a) = .returned (.bool b) := by rw [h]
end Go.Proofs.YthgpleelpeacjaaGreatDoor
