/- Own text: the walk of the document's Pack. -/
import Derived.Test.YtaepgjheknkojaaGreatG17x
namespace Go.Proofs.YtaepgjheknkojaaGreat
open Go.RowKit
set_option linter.unusedSimpArgs false
set_option linter.unusedVariables false

set_option maxRecDepth 20000 in
set_option maxHeartbeats 6400000 in
theorem rpack_true_true (p : Pcm) (ao : Option Addr) (cap : Nat) (w : World) (hr : RowsAt w ao p.pl) (hc : checkN p = 0) :
  Calls Tryz.prog 35 #[pcmV p ao cap, .agg #[.bool true, .bool true]] w fun e w' => e = .returned (.tuple #[.string (textOf (packL p true true (lenP p))), .int .i64 0]) ∧ Below w.heap.size w w' := by
 have HP : Hid (Pk w p ao cap true true (.slice none 0 0) [] ((w.alloc (.cells (pcmC p ao cap) 24)).alloc (.cells #[.bool true, .bool true] 59))) := Pk.new w p ao cap true true
 have HR : Hid (RowsAt w ao p.pl) := hr
 obtain ⟨hh, hlp, hpl⟩ := check_zero p hc
 obtain ⟨r1, r2, c1, c2, w1, w2, hlen⟩ := head_parts p hh
 obtain ⟨n1, n2, n3, n4⟩ := nby_range p.wd w1 w2
 have hw : (p.wd + 7) / 8 = (nby p.wd : Int) := n4.symm
 obtain ⟨hp1, hp2⟩ := pow31 (p.wd - 1).toNat (by omega)
 have hkw : (p.wd - 1).toNat = p.wd.toNat - 1 := by omega
 obtain ⟨H, hH⟩ : ∃ H : Int, (2 : Int) ^ (p.wd.toNat - 1) = H := ⟨_, rfl⟩
 obtain ⟨M, hM⟩ : ∃ M : Int, (2 : Int) ^ (8 * nby p.wd) = M := ⟨_, rfl⟩
 have hM1 : 1 ≤ M ∧ M ≤ 4294967296 := by
  have q1 : 256 ^ nby p.wd ≤ 256 ^ 4 := Nat.pow_le_pow_right (by decide) n2
  have q2 : 0 < 256 ^ nby p.wd := Nat.pow_pos (by decide)
  have q3 : (256 : Nat) ^ 4 = 4294967296 := by decide
  rw [← hM, pow_eq, pow256]
  omega
 rw [hkw, hH] at hp1 hp2
 have HPL : Hid (∀ k, k < p.pl.length → (p.pl.getD k []).length = lenP p ∧ ∀ i, i < lenP p → sampB ((p.pl.getD k []).getD i 0) p.wd = true) := fun k hk => by
  have := hpl k hk
  unfold planeB at this
  obtain ⟨h1, h2⟩ := Bool.and_eq_true_iff.1 this
  have h3 := of_decide_eq_true h1
  refine ⟨h3, fun i hi => ?_⟩
  rw [List.all_eq_true] at h2
  apply h2
  rw [List.getD_eq_getElem?_getD (l := p.pl.getD k []), List.getElem?_eq_getElem (by omega)]
  exact List.getElem_mem _
 have HCK : Hid (∀ wx, Below w.heap.size w wx → Calls Tryz.prog 42 #[pcmV p ao cap] wx fun e w' => e = .returned (.int .i64 0) ∧ Below wx.heap.size wx w') := fun wx hx => by
  have := rcheck_spec p ao cap wx (hr.below hx)
  rwa [hc] at this
 have HLN : Hid (∀ wx, Below w.heap.size w wx → Calls Tryz.prog 40 #[pcmV p ao cap] wx fun e w' => e = .returned (.int .i64 (lenP p : Int)) ∧ Below wx.heap.size wx w') := fun wx hx => rlen_spec p ao cap wx (hr.below hx)
 have hchn : (p.ch.toNat : Int) = p.ch := by omega
 have HMX : Hid (∀ i k, i < lenP p → k ≤ p.ch.toNat → (packL p true true i ++ frameL p true true i k).length ≤ 100000000) := fun i k hi hk => by
  rw [List.length_append, packL_length, frameL_length]
  have h1 : i * (p.ch.toNat * nby p.wd) ≤ 1048576 * (8 * 4) := Nat.mul_le_mul (by omega) (Nat.mul_le_mul (by omega) n2)
  have h2 : k * nby p.wd ≤ 8 * 4 := Nat.mul_le_mul (by omega) n2
  omega
 obtain ⟨i0, hi0, hz0, hz1, hz2⟩ := info_parts Tryz.info5
 have HI : Hid (Tryz.prog.info? 5 = some i0 ∧ i0.zero = some (.int .u8 0) ∧ i0.size = 1 ∧ i0.bytes = 1) := ⟨hi0, hz0, hz1, hz2⟩
 clear hr hc hh hpl n4 hi0 hz0 hz1 hz2
 go_enter Tryz.func35, Tryz.ntmps35
 go_wp2_with fail
 generalize hwa : World.alloc _ _ = wa
 have HA : Hid (Pk w p ao cap true true (.slice none 0 0) [] wa) := by
  rw [← hwa]
  exact HP.out
 clear hwa HP
 refine (HCK.out wa HA.out.below).mono ?_
 rintro e w4 ⟨rfl, hB⟩
 have H4 : Hid (Pk w p ao cap true true (.slice none 0 0) [] w4) := HA.out.next hB
 have d2 := H4.out.c2
 clear hB HA
 go_wp2_with fail
 go_loopw [8, 9] (fun v t wr => ∃ i : Nat, i ≤ lenP p ∧ t = .int .i64 (i : Int) ∧ Pk w p ao cap true true v (packL p true true i) wr) (fun _ t _ => lenP p - (intOf t).toNat)
 case atStart => exact ⟨0, Nat.zero_le _, rfl, H4.out⟩
 case round =>
  clear H4 d2
  obtain ⟨i, hi, rfl, hpk⟩ := hrel
  have HB : Hid (Pk w p ao cap true true u8 (packL p true true i) wr) := hpk
  clear hpk
  have d0 := HB.out.c0
  have d1 := HB.out.c1
  have d2 := HB.out.c2
  have d3 := HB.out.c3
  by_cases hlt : i < lenP p
  ·go_wp2_with fail
   refine (HLN.out wr HB.out.below).mono ?_
   rintro e w5 ⟨rfl, hB5⟩
   have P5 : Hid (Pk w p ao cap true true u8 (packL p true true i) w5) := HB.out.next hB5
   clear hB5
   go_wp2_with fail
   go_loopw [8, 10] (fun v t wr => ∃ k : Nat, k ≤ p.ch.toNat ∧ t = .int .i64 (k : Int) ∧ Pk w p ao cap true true v (packL p true true i ++ frameL p true true i k) wr) (fun _ t _ => p.ch.toNat - (intOf t).toNat)
   case atStart => exact ⟨0, Nat.zero_le _, rfl, by rw [show packL p true true i ++ frameL p true true i 0 = packL p true true i from List.append_nil _]; exact P5.out⟩
   case round =>
    clear P5
    obtain ⟨k, hk, rfl, hpk⟩ := hrel
    have HB2 : Hid (Pk w p ao cap true true u8 (packL p true true i ++ frameL p true true i k) wr) := hpk
    clear hpk
    have e1 := HB2.out.c1
    have e2 := HB2.out.c2
    have e3 := HB2.out.c3
    have m1 := HB2.out.l1
    by_cases hkl : k < p.ch.toNat
    ·have hkp : k < p.pl.length := by omega
     obtain ⟨b, off, a, c, rfl, hll, hcell, hints⟩ := HR.out.at k hkp
     obtain ⟨hpl1, hpl2⟩ := HPL.out k hkp
     have hik : i < (p.pl.getD k []).length := by omega
     obtain ⟨b2, off2, rfl, hcell2, hn1, hn2⟩ := hints.at i hik
     have ec := hcell wr HB2.out.below
     have ek := hcell2 wr HB2.out.below
     have hsb := hpl2 i hlt
     have hs2 := of_decide_eq_true hsb
     rw [hkw, hH] at hs2
     obtain ⟨hs3, hs4⟩ := hs2
     obtain ⟨g1, g2, g3⟩ := codeN_fits p.wd true ((p.pl.getD k []).getD i 0) w1 w2 hsb
     obtain ⟨m, hm⟩ : ∃ m : Nat, codeN p.wd true ((p.pl.getD k []).getD i 0) = (m : Int) := ⟨(codeN p.wd true ((p.pl.getD k []).getD i 0)).toNat, by omega⟩
     have hcl : codeL true p.wd true ((p.pl.getD k []).getD i 0) = highL m (nby p.wd) := by
      unfold codeL
      rw [hm]
      rfl
     have hmf : m < 256 ^ nby p.wd := by
      rw [hm] at g2
      have e : (256 : Int) ^ nby p.wd = ((256 ^ nby p.wd : Nat) : Int) := by simp
      rw [e] at g2
      omega
     have hfit : fitsB (m : Int) (nby p.wd : Int) = true := fits_of_nat m (nby p.wd) n1 (by omega) hmf
     have kle := refle_spec (m : Int) (nby p.wd : Int) (by omega) (by omega)
     have kbe := refbe_spec (m : Int) (nby p.wd : Int) (by omega) (by omega)
     rw [leT_nat m _ hfit, wE_yes _ _ hfit] at kle
     rw [beT_nat m _ hfit, wE_yes _ _ hfit] at kbe
     have hfr := frameL_succ p true true i k
     rw [hcl] at hfr
     have HLB := HMX.out i k hlt (by omega)
     have htx : (textOf (highL m (nby p.wd))).size = nby p.wd := by rw [textOf_size, highL_length]
     have HAP : Hid (∀ v7 w7 wx, Pk w p (some ⟨b, off, none⟩) cap true true u8 (packL p true true i ++ frameL p true true i k) wx → wx.grownBy w7 u8.ownBlock → w7.ownsRow (w.heap.size + 2) 5 1 v7 ((packL p true true i ++ frameL p true true i k).length + (textOf (highL m (nby p.wd))).size) (((packL p true true i ++ frameL p true true i k).map fun (b : Nat) => Value.int .u8 (b : Int)) ++ Lib.strCells (textOf (highL m (nby p.wd)))) → Pk w p (some ⟨b, off, none⟩) cap true true v7 (packL p true true i ++ frameL p true true i (k + 1)) w7) := fun v7 w7 wx hx hg ho => by
      refine hx.app hg ?_
      rw [strCells_textOf _ (highL_lt _ _), ← List.map_append, List.append_assoc, ← hfr, htx] at ho
      have e : (packL p true true i ++ frameL p true true i (k + 1)).length = (packL p true true i ++ frameL p true true i k).length + nby p.wd := by
       rw [hfr, List.length_append, List.length_append, List.length_append, highL_length]
       omega
      rw [e]
      exact ho
     have HN : Hid (codeN p.wd true ((p.pl.getD k []).getD i 0) = (m : Int)) := hm
     have HLBH : Hid ((packL p true true i ++ frameL p true true i k).length ≤ 100000000) := HLB
     clear hcell hcell2 hints hsb hpl1 hpl2 hcl hfr hm g2 hmf hfit HLB
     generalize (packL p true true i ++ frameL p true true i k) = LL at *
     generalize (p.pl.getD k []).getD i 0 = x at *
     generalize (p.pl.getD k []).length = ln at *
     generalize textOf (highL m (nby p.wd)) = tx at *
     have hkc : (k : Int) < p.ch := by omega
     have hadd : x + H = (m : Int) := by
      have h := HN.out
      unfold codeN at h
      rwa [if_pos rfl, hkw, hH] at h
     clear HN
     go_wp2_with fail
     refine (kle wr).mono ?_
     rintro e w5 ⟨rfl, hB5⟩
     have P5 : Hid (Pk w p (some ⟨b, off, none⟩) cap true true u8 LL w5) := HB2.out.next hB5
     clear hB5
     have m0 := P5.out.l0
     go_wp2_with fail
     refine (kbe w5).mono ?_
     rintro e w6 ⟨rfl, hB6⟩
     have P6 : Hid (Pk w p (some ⟨b, off, none⟩) cap true true u8 LL w6) := P5.out.next hB6
     clear hB6
     go_wp2_with (first | (refine Lib.wpList_append_own_string _ rfl (.tmp 74) (.tmp 75) 107 9 rfl (w.heap.size + 2) 5 i0 Tryz.underlying107 Tryz.underlying9 HI.out.1 HI.out.2.1 HI.out.2.2.1 HI.out.2.2.2 u8 _ _ rfl P6.out.own tx rfl (by rw [htx]; have := HLBH.out; simp only [maxLen]; omega) (by rw [htx]; have := HLBH.out; omega) P6.out.size ?_; intro v7 w7 ho7 hg7 _))
     have P7 : Hid (Pk w p (some ⟨b, off, none⟩) cap true true v7 (packL p true true i ++ frameL p true true i (k + 1)) w7) := HAP.out v7 w7 w6 P6.out hg7 ho7
     clear ho7 hg7
     go_wp2_with fail
     go_roundw
     case rel => exact ⟨k + 1, by omega, by go_num, P7.out⟩
     case measure => simp [intOf]; omega
    ·have hke : k = p.ch.toNat := by omega
     have HE : Hid (Pk w p ao cap true true u8 (packL p true true (i + 1)) wr) := by
      have := HB2.out
      rw [hke, ← packL_succ] at this
      exact this
     have hkc : ¬ (k : Int) < p.ch := by omega
     clear hke
     go_wp2_with fail
     go_roundw
     case rel => exact ⟨i + 1, by omega, by go_num, HE.out⟩
     case measure => simp [intOf]; omega
  ·have hie : i = lenP p := by omega
   have hcv : (convert 107 9 u8).run Tryz.prog wr = .ok (.string (textOf (packL p true true i))) wr := conv_own HB.out.own
   go_wp2_with fail
   refine (HLN.out wr HB.out.below).mono ?_
   rintro e w5 ⟨rfl, hB5⟩
   have P5 : Hid (Pk w p ao cap true true u8 (packL p true true i) w5) := HB.out.next hB5
   clear hB5 hcv
   have hcv : (convert 107 9 u8).run Tryz.prog w5 = .ok (.string (textOf (packL p true true i))) w5 := conv_own P5.out.own
   have HIE : Hid (i = lenP p) := hie
   clear hie
   go_wp2_with fail
   go_ret2
   exact ⟨by rw [← HIE.out]; rfl, P5.out.below⟩

set_option maxRecDepth 20000 in
set_option maxHeartbeats 6400000 in
theorem rpack_true_false (p : Pcm) (ao : Option Addr) (cap : Nat) (w : World) (hr : RowsAt w ao p.pl) (hc : checkN p = 0) :
  Calls Tryz.prog 35 #[pcmV p ao cap, .agg #[.bool false, .bool true]] w fun e w' => e = .returned (.tuple #[.string (textOf (packL p false true (lenP p))), .int .i64 0]) ∧ Below w.heap.size w w' := by
 have HP : Hid (Pk w p ao cap false true (.slice none 0 0) [] ((w.alloc (.cells (pcmC p ao cap) 24)).alloc (.cells #[.bool false, .bool true] 59))) := Pk.new w p ao cap false true
 have HR : Hid (RowsAt w ao p.pl) := hr
 obtain ⟨hh, hlp, hpl⟩ := check_zero p hc
 obtain ⟨r1, r2, c1, c2, w1, w2, hlen⟩ := head_parts p hh
 obtain ⟨n1, n2, n3, n4⟩ := nby_range p.wd w1 w2
 have hw : (p.wd + 7) / 8 = (nby p.wd : Int) := n4.symm
 obtain ⟨hp1, hp2⟩ := pow31 (p.wd - 1).toNat (by omega)
 have hkw : (p.wd - 1).toNat = p.wd.toNat - 1 := by omega
 obtain ⟨H, hH⟩ : ∃ H : Int, (2 : Int) ^ (p.wd.toNat - 1) = H := ⟨_, rfl⟩
 obtain ⟨M, hM⟩ : ∃ M : Int, (2 : Int) ^ (8 * nby p.wd) = M := ⟨_, rfl⟩
 have hM1 : 1 ≤ M ∧ M ≤ 4294967296 := by
  have q1 : 256 ^ nby p.wd ≤ 256 ^ 4 := Nat.pow_le_pow_right (by decide) n2
  have q2 : 0 < 256 ^ nby p.wd := Nat.pow_pos (by decide)
  have q3 : (256 : Nat) ^ 4 = 4294967296 := by decide
  rw [← hM, pow_eq, pow256]
  omega
 rw [hkw, hH] at hp1 hp2
 have HPL : Hid (∀ k, k < p.pl.length → (p.pl.getD k []).length = lenP p ∧ ∀ i, i < lenP p → sampB ((p.pl.getD k []).getD i 0) p.wd = true) := fun k hk => by
  have := hpl k hk
  unfold planeB at this
  obtain ⟨h1, h2⟩ := Bool.and_eq_true_iff.1 this
  have h3 := of_decide_eq_true h1
  refine ⟨h3, fun i hi => ?_⟩
  rw [List.all_eq_true] at h2
  apply h2
  rw [List.getD_eq_getElem?_getD (l := p.pl.getD k []), List.getElem?_eq_getElem (by omega)]
  exact List.getElem_mem _
 have HCK : Hid (∀ wx, Below w.heap.size w wx → Calls Tryz.prog 42 #[pcmV p ao cap] wx fun e w' => e = .returned (.int .i64 0) ∧ Below wx.heap.size wx w') := fun wx hx => by
  have := rcheck_spec p ao cap wx (hr.below hx)
  rwa [hc] at this
 have HLN : Hid (∀ wx, Below w.heap.size w wx → Calls Tryz.prog 40 #[pcmV p ao cap] wx fun e w' => e = .returned (.int .i64 (lenP p : Int)) ∧ Below wx.heap.size wx w') := fun wx hx => rlen_spec p ao cap wx (hr.below hx)
 have hchn : (p.ch.toNat : Int) = p.ch := by omega
 have HMX : Hid (∀ i k, i < lenP p → k ≤ p.ch.toNat → (packL p false true i ++ frameL p false true i k).length ≤ 100000000) := fun i k hi hk => by
  rw [List.length_append, packL_length, frameL_length]
  have h1 : i * (p.ch.toNat * nby p.wd) ≤ 1048576 * (8 * 4) := Nat.mul_le_mul (by omega) (Nat.mul_le_mul (by omega) n2)
  have h2 : k * nby p.wd ≤ 8 * 4 := Nat.mul_le_mul (by omega) n2
  omega
 obtain ⟨i0, hi0, hz0, hz1, hz2⟩ := info_parts Tryz.info5
 have HI : Hid (Tryz.prog.info? 5 = some i0 ∧ i0.zero = some (.int .u8 0) ∧ i0.size = 1 ∧ i0.bytes = 1) := ⟨hi0, hz0, hz1, hz2⟩
 clear hr hc hh hpl n4 hi0 hz0 hz1 hz2
 go_enter Tryz.func35, Tryz.ntmps35
 go_wp2_with fail
 generalize hwa : World.alloc _ _ = wa
 have HA : Hid (Pk w p ao cap false true (.slice none 0 0) [] wa) := by
  rw [← hwa]
  exact HP.out
 clear hwa HP
 refine (HCK.out wa HA.out.below).mono ?_
 rintro e w4 ⟨rfl, hB⟩
 have H4 : Hid (Pk w p ao cap false true (.slice none 0 0) [] w4) := HA.out.next hB
 have d2 := H4.out.c2
 clear hB HA
 go_wp2_with fail
 go_loopw [8, 9] (fun v t wr => ∃ i : Nat, i ≤ lenP p ∧ t = .int .i64 (i : Int) ∧ Pk w p ao cap false true v (packL p false true i) wr) (fun _ t _ => lenP p - (intOf t).toNat)
 case atStart => exact ⟨0, Nat.zero_le _, rfl, H4.out⟩
 case round =>
  clear H4 d2
  obtain ⟨i, hi, rfl, hpk⟩ := hrel
  have HB : Hid (Pk w p ao cap false true u8 (packL p false true i) wr) := hpk
  clear hpk
  have d0 := HB.out.c0
  have d1 := HB.out.c1
  have d2 := HB.out.c2
  have d3 := HB.out.c3
  by_cases hlt : i < lenP p
  ·go_wp2_with fail
   refine (HLN.out wr HB.out.below).mono ?_
   rintro e w5 ⟨rfl, hB5⟩
   have P5 : Hid (Pk w p ao cap false true u8 (packL p false true i) w5) := HB.out.next hB5
   clear hB5
   go_wp2_with fail
   go_loopw [8, 10] (fun v t wr => ∃ k : Nat, k ≤ p.ch.toNat ∧ t = .int .i64 (k : Int) ∧ Pk w p ao cap false true v (packL p false true i ++ frameL p false true i k) wr) (fun _ t _ => p.ch.toNat - (intOf t).toNat)
   case atStart => exact ⟨0, Nat.zero_le _, rfl, by rw [show packL p false true i ++ frameL p false true i 0 = packL p false true i from List.append_nil _]; exact P5.out⟩
   case round =>
    clear P5
    obtain ⟨k, hk, rfl, hpk⟩ := hrel
    have HB2 : Hid (Pk w p ao cap false true u8 (packL p false true i ++ frameL p false true i k) wr) := hpk
    clear hpk
    have e1 := HB2.out.c1
    have e2 := HB2.out.c2
    have e3 := HB2.out.c3
    have m1 := HB2.out.l1
    by_cases hkl : k < p.ch.toNat
    ·have hkp : k < p.pl.length := by omega
     obtain ⟨b, off, a, c, rfl, hll, hcell, hints⟩ := HR.out.at k hkp
     obtain ⟨hpl1, hpl2⟩ := HPL.out k hkp
     have hik : i < (p.pl.getD k []).length := by omega
     obtain ⟨b2, off2, rfl, hcell2, hn1, hn2⟩ := hints.at i hik
     have ec := hcell wr HB2.out.below
     have ek := hcell2 wr HB2.out.below
     have hsb := hpl2 i hlt
     have hs2 := of_decide_eq_true hsb
     rw [hkw, hH] at hs2
     obtain ⟨hs3, hs4⟩ := hs2
     obtain ⟨g1, g2, g3⟩ := codeN_fits p.wd true ((p.pl.getD k []).getD i 0) w1 w2 hsb
     obtain ⟨m, hm⟩ : ∃ m : Nat, codeN p.wd true ((p.pl.getD k []).getD i 0) = (m : Int) := ⟨(codeN p.wd true ((p.pl.getD k []).getD i 0)).toNat, by omega⟩
     have hcl : codeL false p.wd true ((p.pl.getD k []).getD i 0) = lowL m (nby p.wd) := by
      unfold codeL
      rw [hm]
      rfl
     have hmf : m < 256 ^ nby p.wd := by
      rw [hm] at g2
      have e : (256 : Int) ^ nby p.wd = ((256 ^ nby p.wd : Nat) : Int) := by simp
      rw [e] at g2
      omega
     have hfit : fitsB (m : Int) (nby p.wd : Int) = true := fits_of_nat m (nby p.wd) n1 (by omega) hmf
     have kle := refle_spec (m : Int) (nby p.wd : Int) (by omega) (by omega)
     have kbe := refbe_spec (m : Int) (nby p.wd : Int) (by omega) (by omega)
     rw [leT_nat m _ hfit, wE_yes _ _ hfit] at kle
     rw [beT_nat m _ hfit, wE_yes _ _ hfit] at kbe
     have hfr := frameL_succ p false true i k
     rw [hcl] at hfr
     have HLB := HMX.out i k hlt (by omega)
     have htx : (textOf (lowL m (nby p.wd))).size = nby p.wd := by rw [textOf_size, lowL_length]
     have HAP : Hid (∀ v7 w7 wx, Pk w p (some ⟨b, off, none⟩) cap false true u8 (packL p false true i ++ frameL p false true i k) wx → wx.grownBy w7 u8.ownBlock → w7.ownsRow (w.heap.size + 2) 5 1 v7 ((packL p false true i ++ frameL p false true i k).length + (textOf (lowL m (nby p.wd))).size) (((packL p false true i ++ frameL p false true i k).map fun (b : Nat) => Value.int .u8 (b : Int)) ++ Lib.strCells (textOf (lowL m (nby p.wd)))) → Pk w p (some ⟨b, off, none⟩) cap false true v7 (packL p false true i ++ frameL p false true i (k + 1)) w7) := fun v7 w7 wx hx hg ho => by
      refine hx.app hg ?_
      rw [strCells_textOf _ (lowL_lt _ _), ← List.map_append, List.append_assoc, ← hfr, htx] at ho
      have e : (packL p false true i ++ frameL p false true i (k + 1)).length = (packL p false true i ++ frameL p false true i k).length + nby p.wd := by
       rw [hfr, List.length_append, List.length_append, List.length_append, lowL_length]
       omega
      rw [e]
      exact ho
     have HN : Hid (codeN p.wd true ((p.pl.getD k []).getD i 0) = (m : Int)) := hm
     have HLBH : Hid ((packL p false true i ++ frameL p false true i k).length ≤ 100000000) := HLB
     clear hcell hcell2 hints hsb hpl1 hpl2 hcl hfr hm g2 hmf hfit HLB
     generalize (packL p false true i ++ frameL p false true i k) = LL at *
     generalize (p.pl.getD k []).getD i 0 = x at *
     generalize (p.pl.getD k []).length = ln at *
     generalize textOf (lowL m (nby p.wd)) = tx at *
     have hkc : (k : Int) < p.ch := by omega
     have hadd : x + H = (m : Int) := by
      have h := HN.out
      unfold codeN at h
      rwa [if_pos rfl, hkw, hH] at h
     clear HN
     go_wp2_with fail
     refine (kle wr).mono ?_
     rintro e w5 ⟨rfl, hB5⟩
     have P5 : Hid (Pk w p (some ⟨b, off, none⟩) cap false true u8 LL w5) := HB2.out.next hB5
     clear hB5
     have m0 := P5.out.l0
     go_wp2_with (first | (refine Lib.wpList_append_own_string _ rfl (.tmp 74) (.tmp 75) 107 9 rfl (w.heap.size + 2) 5 i0 Tryz.underlying107 Tryz.underlying9 HI.out.1 HI.out.2.1 HI.out.2.2.1 HI.out.2.2.2 u8 _ _ rfl P5.out.own tx rfl (by rw [htx]; have := HLBH.out; simp only [maxLen]; omega) (by rw [htx]; have := HLBH.out; omega) P5.out.size ?_; intro v7 w7 ho7 hg7 _))
     have P7 : Hid (Pk w p (some ⟨b, off, none⟩) cap false true v7 (packL p false true i ++ frameL p false true i (k + 1)) w7) := HAP.out v7 w7 w5 P5.out hg7 ho7
     clear ho7 hg7
     go_wp2_with fail
     go_roundw
     case rel => exact ⟨k + 1, by omega, by go_num, P7.out⟩
     case measure => simp [intOf]; omega
    ·have hke : k = p.ch.toNat := by omega
     have HE : Hid (Pk w p ao cap false true u8 (packL p false true (i + 1)) wr) := by
      have := HB2.out
      rw [hke, ← packL_succ] at this
      exact this
     have hkc : ¬ (k : Int) < p.ch := by omega
     clear hke
     go_wp2_with fail
     go_roundw
     case rel => exact ⟨i + 1, by omega, by go_num, HE.out⟩
     case measure => simp [intOf]; omega
  ·have hie : i = lenP p := by omega
   have hcv : (convert 107 9 u8).run Tryz.prog wr = .ok (.string (textOf (packL p false true i))) wr := conv_own HB.out.own
   go_wp2_with fail
   refine (HLN.out wr HB.out.below).mono ?_
   rintro e w5 ⟨rfl, hB5⟩
   have P5 : Hid (Pk w p ao cap false true u8 (packL p false true i) w5) := HB.out.next hB5
   clear hB5 hcv
   have hcv : (convert 107 9 u8).run Tryz.prog w5 = .ok (.string (textOf (packL p false true i))) w5 := conv_own P5.out.own
   have HIE : Hid (i = lenP p) := hie
   clear hie
   go_wp2_with fail
   go_ret2
   exact ⟨by rw [← HIE.out]; rfl, P5.out.below⟩

set_option maxRecDepth 20000 in
set_option maxHeartbeats 6400000 in
theorem rpack_false_true (p : Pcm) (ao : Option Addr) (cap : Nat) (w : World) (hr : RowsAt w ao p.pl) (hc : checkN p = 0) :
  Calls Tryz.prog 35 #[pcmV p ao cap, .agg #[.bool true, .bool false]] w fun e w' => e = .returned (.tuple #[.string (textOf (packL p true false (lenP p))), .int .i64 0]) ∧ Below w.heap.size w w' := by
 have HP : Hid (Pk w p ao cap true false (.slice none 0 0) [] ((w.alloc (.cells (pcmC p ao cap) 24)).alloc (.cells #[.bool true, .bool false] 59))) := Pk.new w p ao cap true false
 have HR : Hid (RowsAt w ao p.pl) := hr
 obtain ⟨hh, hlp, hpl⟩ := check_zero p hc
 obtain ⟨r1, r2, c1, c2, w1, w2, hlen⟩ := head_parts p hh
 obtain ⟨n1, n2, n3, n4⟩ := nby_range p.wd w1 w2
 have hw : (p.wd + 7) / 8 = (nby p.wd : Int) := n4.symm
 obtain ⟨hp1, hp2⟩ := pow31 (p.wd - 1).toNat (by omega)
 have hkw : (p.wd - 1).toNat = p.wd.toNat - 1 := by omega
 obtain ⟨H, hH⟩ : ∃ H : Int, (2 : Int) ^ (p.wd.toNat - 1) = H := ⟨_, rfl⟩
 obtain ⟨M, hM⟩ : ∃ M : Int, (2 : Int) ^ (8 * nby p.wd) = M := ⟨_, rfl⟩
 have hM1 : 1 ≤ M ∧ M ≤ 4294967296 := by
  have q1 : 256 ^ nby p.wd ≤ 256 ^ 4 := Nat.pow_le_pow_right (by decide) n2
  have q2 : 0 < 256 ^ nby p.wd := Nat.pow_pos (by decide)
  have q3 : (256 : Nat) ^ 4 = 4294967296 := by decide
  rw [← hM, pow_eq, pow256]
  omega
 rw [hkw, hH] at hp1 hp2
 have HPL : Hid (∀ k, k < p.pl.length → (p.pl.getD k []).length = lenP p ∧ ∀ i, i < lenP p → sampB ((p.pl.getD k []).getD i 0) p.wd = true) := fun k hk => by
  have := hpl k hk
  unfold planeB at this
  obtain ⟨h1, h2⟩ := Bool.and_eq_true_iff.1 this
  have h3 := of_decide_eq_true h1
  refine ⟨h3, fun i hi => ?_⟩
  rw [List.all_eq_true] at h2
  apply h2
  rw [List.getD_eq_getElem?_getD (l := p.pl.getD k []), List.getElem?_eq_getElem (by omega)]
  exact List.getElem_mem _
 have HCK : Hid (∀ wx, Below w.heap.size w wx → Calls Tryz.prog 42 #[pcmV p ao cap] wx fun e w' => e = .returned (.int .i64 0) ∧ Below wx.heap.size wx w') := fun wx hx => by
  have := rcheck_spec p ao cap wx (hr.below hx)
  rwa [hc] at this
 have HLN : Hid (∀ wx, Below w.heap.size w wx → Calls Tryz.prog 40 #[pcmV p ao cap] wx fun e w' => e = .returned (.int .i64 (lenP p : Int)) ∧ Below wx.heap.size wx w') := fun wx hx => rlen_spec p ao cap wx (hr.below hx)
 have hchn : (p.ch.toNat : Int) = p.ch := by omega
 have HMX : Hid (∀ i k, i < lenP p → k ≤ p.ch.toNat → (packL p true false i ++ frameL p true false i k).length ≤ 100000000) := fun i k hi hk => by
  rw [List.length_append, packL_length, frameL_length]
  have h1 : i * (p.ch.toNat * nby p.wd) ≤ 1048576 * (8 * 4) := Nat.mul_le_mul (by omega) (Nat.mul_le_mul (by omega) n2)
  have h2 : k * nby p.wd ≤ 8 * 4 := Nat.mul_le_mul (by omega) n2
  omega
 obtain ⟨i0, hi0, hz0, hz1, hz2⟩ := info_parts Tryz.info5
 have HI : Hid (Tryz.prog.info? 5 = some i0 ∧ i0.zero = some (.int .u8 0) ∧ i0.size = 1 ∧ i0.bytes = 1) := ⟨hi0, hz0, hz1, hz2⟩
 clear hr hc hh hpl n4 hi0 hz0 hz1 hz2
 go_enter Tryz.func35, Tryz.ntmps35
 go_wp2_with fail
 generalize hwa : World.alloc _ _ = wa
 have HA : Hid (Pk w p ao cap true false (.slice none 0 0) [] wa) := by
  rw [← hwa]
  exact HP.out
 clear hwa HP
 refine (HCK.out wa HA.out.below).mono ?_
 rintro e w4 ⟨rfl, hB⟩
 have H4 : Hid (Pk w p ao cap true false (.slice none 0 0) [] w4) := HA.out.next hB
 have d2 := H4.out.c2
 clear hB HA
 go_wp2_with fail
 go_loopw [8, 9] (fun v t wr => ∃ i : Nat, i ≤ lenP p ∧ t = .int .i64 (i : Int) ∧ Pk w p ao cap true false v (packL p true false i) wr) (fun _ t _ => lenP p - (intOf t).toNat)
 case atStart => exact ⟨0, Nat.zero_le _, rfl, H4.out⟩
 case round =>
  clear H4 d2
  obtain ⟨i, hi, rfl, hpk⟩ := hrel
  have HB : Hid (Pk w p ao cap true false u8 (packL p true false i) wr) := hpk
  clear hpk
  have d0 := HB.out.c0
  have d1 := HB.out.c1
  have d2 := HB.out.c2
  have d3 := HB.out.c3
  by_cases hlt : i < lenP p
  ·go_wp2_with fail
   refine (HLN.out wr HB.out.below).mono ?_
   rintro e w5 ⟨rfl, hB5⟩
   have P5 : Hid (Pk w p ao cap true false u8 (packL p true false i) w5) := HB.out.next hB5
   clear hB5
   go_wp2_with fail
   go_loopw [8, 10] (fun v t wr => ∃ k : Nat, k ≤ p.ch.toNat ∧ t = .int .i64 (k : Int) ∧ Pk w p ao cap true false v (packL p true false i ++ frameL p true false i k) wr) (fun _ t _ => p.ch.toNat - (intOf t).toNat)
   case atStart => exact ⟨0, Nat.zero_le _, rfl, by rw [show packL p true false i ++ frameL p true false i 0 = packL p true false i from List.append_nil _]; exact P5.out⟩
   case round =>
    clear P5
    obtain ⟨k, hk, rfl, hpk⟩ := hrel
    have HB2 : Hid (Pk w p ao cap true false u8 (packL p true false i ++ frameL p true false i k) wr) := hpk
    clear hpk
    have e1 := HB2.out.c1
    have e2 := HB2.out.c2
    have e3 := HB2.out.c3
    have m1 := HB2.out.l1
    by_cases hkl : k < p.ch.toNat
    ·have hkp : k < p.pl.length := by omega
     obtain ⟨b, off, a, c, rfl, hll, hcell, hints⟩ := HR.out.at k hkp
     obtain ⟨hpl1, hpl2⟩ := HPL.out k hkp
     have hik : i < (p.pl.getD k []).length := by omega
     obtain ⟨b2, off2, rfl, hcell2, hn1, hn2⟩ := hints.at i hik
     have ec := hcell wr HB2.out.below
     have ek := hcell2 wr HB2.out.below
     have hsb := hpl2 i hlt
     have hs2 := of_decide_eq_true hsb
     rw [hkw, hH] at hs2
     obtain ⟨hs3, hs4⟩ := hs2
     obtain ⟨g1, g2, g3⟩ := codeN_fits p.wd false ((p.pl.getD k []).getD i 0) w1 w2 hsb
     obtain ⟨m, hm⟩ : ∃ m : Nat, codeN p.wd false ((p.pl.getD k []).getD i 0) = (m : Int) := ⟨(codeN p.wd false ((p.pl.getD k []).getD i 0)).toNat, by omega⟩
     have hcl : codeL true p.wd false ((p.pl.getD k []).getD i 0) = highL m (nby p.wd) := by
      unfold codeL
      rw [hm]
      rfl
     have hmf : m < 256 ^ nby p.wd := by
      rw [hm] at g2
      have e : (256 : Int) ^ nby p.wd = ((256 ^ nby p.wd : Nat) : Int) := by simp
      rw [e] at g2
      omega
     have hfit : fitsB (m : Int) (nby p.wd : Int) = true := fits_of_nat m (nby p.wd) n1 (by omega) hmf
     have kle := refle_spec (m : Int) (nby p.wd : Int) (by omega) (by omega)
     have kbe := refbe_spec (m : Int) (nby p.wd : Int) (by omega) (by omega)
     rw [leT_nat m _ hfit, wE_yes _ _ hfit] at kle
     rw [beT_nat m _ hfit, wE_yes _ _ hfit] at kbe
     have hfr := frameL_succ p true false i k
     rw [hcl] at hfr
     have HLB := HMX.out i k hlt (by omega)
     have htx : (textOf (highL m (nby p.wd))).size = nby p.wd := by rw [textOf_size, highL_length]
     have HAP : Hid (∀ v7 w7 wx, Pk w p (some ⟨b, off, none⟩) cap true false u8 (packL p true false i ++ frameL p true false i k) wx → wx.grownBy w7 u8.ownBlock → w7.ownsRow (w.heap.size + 2) 5 1 v7 ((packL p true false i ++ frameL p true false i k).length + (textOf (highL m (nby p.wd))).size) (((packL p true false i ++ frameL p true false i k).map fun (b : Nat) => Value.int .u8 (b : Int)) ++ Lib.strCells (textOf (highL m (nby p.wd)))) → Pk w p (some ⟨b, off, none⟩) cap true false v7 (packL p true false i ++ frameL p true false i (k + 1)) w7) := fun v7 w7 wx hx hg ho => by
      refine hx.app hg ?_
      rw [strCells_textOf _ (highL_lt _ _), ← List.map_append, List.append_assoc, ← hfr, htx] at ho
      have e : (packL p true false i ++ frameL p true false i (k + 1)).length = (packL p true false i ++ frameL p true false i k).length + nby p.wd := by
       rw [hfr, List.length_append, List.length_append, List.length_append, highL_length]
       omega
      rw [e]
      exact ho
     have HN : Hid (codeN p.wd false ((p.pl.getD k []).getD i 0) = (m : Int)) := hm
     have HLBH : Hid ((packL p true false i ++ frameL p true false i k).length ≤ 100000000) := HLB
     clear hcell hcell2 hints hsb hpl1 hpl2 hcl hfr hm g2 hmf hfit HLB
     generalize (packL p true false i ++ frameL p true false i k) = LL at *
     generalize (p.pl.getD k []).getD i 0 = x at *
     generalize (p.pl.getD k []).length = ln at *
     generalize textOf (highL m (nby p.wd)) = tx at *
     have hkc : (k : Int) < p.ch := by omega
     by_cases hx : x < 0
     ·have hadd : x + M = (m : Int) := by
       have h := HN.out
       unfold codeN at h
       rwa [if_neg (by decide), if_pos hx, hM] at h
      clear HN
      have h8 : (8 * (nby p.wd : Int)).toNat = 8 * nby p.wd := by omega
      go_wp2_with fail
      refine (kle wr).mono ?_
      rintro e w5 ⟨rfl, hB5⟩
      have P5 : Hid (Pk w p (some ⟨b, off, none⟩) cap true false u8 LL w5) := HB2.out.next hB5
      clear hB5
      have m0 := P5.out.l0
      go_wp2_with fail
      refine (kbe w5).mono ?_
      rintro e w6 ⟨rfl, hB6⟩
      have P6 : Hid (Pk w p (some ⟨b, off, none⟩) cap true false u8 LL w6) := P5.out.next hB6
      clear hB6
      go_wp2_with (first | (refine Lib.wpList_append_own_string _ rfl (.tmp 74) (.tmp 75) 107 9 rfl (w.heap.size + 2) 5 i0 Tryz.underlying107 Tryz.underlying9 HI.out.1 HI.out.2.1 HI.out.2.2.1 HI.out.2.2.2 u8 _ _ rfl P6.out.own tx rfl (by rw [htx]; have := HLBH.out; simp only [maxLen]; omega) (by rw [htx]; have := HLBH.out; omega) P6.out.size ?_; intro v7 w7 ho7 hg7 _))
      have P7 : Hid (Pk w p (some ⟨b, off, none⟩) cap true false v7 (packL p true false i ++ frameL p true false i (k + 1)) w7) := HAP.out v7 w7 w6 P6.out hg7 ho7
      clear ho7 hg7
      go_wp2_with fail
      go_roundw
      case rel => exact ⟨k + 1, by omega, by go_num, P7.out⟩
      case measure => simp [intOf]; omega
     ·have hadd : x = (m : Int) := by
       have h := HN.out
       unfold codeN at h
       rwa [if_neg (by decide), if_neg hx] at h
      clear HN
      subst hadd
      go_wp2_with fail
      refine (kle wr).mono ?_
      rintro e w5 ⟨rfl, hB5⟩
      have P5 : Hid (Pk w p (some ⟨b, off, none⟩) cap true false u8 LL w5) := HB2.out.next hB5
      clear hB5
      have m0 := P5.out.l0
      go_wp2_with fail
      refine (kbe w5).mono ?_
      rintro e w6 ⟨rfl, hB6⟩
      have P6 : Hid (Pk w p (some ⟨b, off, none⟩) cap true false u8 LL w6) := P5.out.next hB6
      clear hB6
      go_wp2_with (first | (refine Lib.wpList_append_own_string _ rfl (.tmp 74) (.tmp 75) 107 9 rfl (w.heap.size + 2) 5 i0 Tryz.underlying107 Tryz.underlying9 HI.out.1 HI.out.2.1 HI.out.2.2.1 HI.out.2.2.2 u8 _ _ rfl P6.out.own tx rfl (by rw [htx]; have := HLBH.out; simp only [maxLen]; omega) (by rw [htx]; have := HLBH.out; omega) P6.out.size ?_; intro v7 w7 ho7 hg7 _))
      have P7 : Hid (Pk w p (some ⟨b, off, none⟩) cap true false v7 (packL p true false i ++ frameL p true false i (k + 1)) w7) := HAP.out v7 w7 w6 P6.out hg7 ho7
      clear ho7 hg7
      go_wp2_with fail
      go_roundw
      case rel => exact ⟨k + 1, by omega, by go_num, P7.out⟩
      case measure => simp [intOf]; omega
    ·have hke : k = p.ch.toNat := by omega
     have HE : Hid (Pk w p ao cap true false u8 (packL p true false (i + 1)) wr) := by
      have := HB2.out
      rw [hke, ← packL_succ] at this
      exact this
     have hkc : ¬ (k : Int) < p.ch := by omega
     clear hke
     go_wp2_with fail
     go_roundw
     case rel => exact ⟨i + 1, by omega, by go_num, HE.out⟩
     case measure => simp [intOf]; omega
  ·have hie : i = lenP p := by omega
   have hcv : (convert 107 9 u8).run Tryz.prog wr = .ok (.string (textOf (packL p true false i))) wr := conv_own HB.out.own
   go_wp2_with fail
   refine (HLN.out wr HB.out.below).mono ?_
   rintro e w5 ⟨rfl, hB5⟩
   have P5 : Hid (Pk w p ao cap true false u8 (packL p true false i) w5) := HB.out.next hB5
   clear hB5 hcv
   have hcv : (convert 107 9 u8).run Tryz.prog w5 = .ok (.string (textOf (packL p true false i))) w5 := conv_own P5.out.own
   have HIE : Hid (i = lenP p) := hie
   clear hie
   go_wp2_with fail
   go_ret2
   exact ⟨by rw [← HIE.out]; rfl, P5.out.below⟩

set_option maxRecDepth 20000 in
set_option maxHeartbeats 6400000 in
theorem rpack_false_false (p : Pcm) (ao : Option Addr) (cap : Nat) (w : World) (hr : RowsAt w ao p.pl) (hc : checkN p = 0) :
  Calls Tryz.prog 35 #[pcmV p ao cap, .agg #[.bool false, .bool false]] w fun e w' => e = .returned (.tuple #[.string (textOf (packL p false false (lenP p))), .int .i64 0]) ∧ Below w.heap.size w w' := by
 have HP : Hid (Pk w p ao cap false false (.slice none 0 0) [] ((w.alloc (.cells (pcmC p ao cap) 24)).alloc (.cells #[.bool false, .bool false] 59))) := Pk.new w p ao cap false false
 have HR : Hid (RowsAt w ao p.pl) := hr
 obtain ⟨hh, hlp, hpl⟩ := check_zero p hc
 obtain ⟨r1, r2, c1, c2, w1, w2, hlen⟩ := head_parts p hh
 obtain ⟨n1, n2, n3, n4⟩ := nby_range p.wd w1 w2
 have hw : (p.wd + 7) / 8 = (nby p.wd : Int) := n4.symm
 obtain ⟨hp1, hp2⟩ := pow31 (p.wd - 1).toNat (by omega)
 have hkw : (p.wd - 1).toNat = p.wd.toNat - 1 := by omega
 obtain ⟨H, hH⟩ : ∃ H : Int, (2 : Int) ^ (p.wd.toNat - 1) = H := ⟨_, rfl⟩
 obtain ⟨M, hM⟩ : ∃ M : Int, (2 : Int) ^ (8 * nby p.wd) = M := ⟨_, rfl⟩
 have hM1 : 1 ≤ M ∧ M ≤ 4294967296 := by
  have q1 : 256 ^ nby p.wd ≤ 256 ^ 4 := Nat.pow_le_pow_right (by decide) n2
  have q2 : 0 < 256 ^ nby p.wd := Nat.pow_pos (by decide)
  have q3 : (256 : Nat) ^ 4 = 4294967296 := by decide
  rw [← hM, pow_eq, pow256]
  omega
 rw [hkw, hH] at hp1 hp2
 have HPL : Hid (∀ k, k < p.pl.length → (p.pl.getD k []).length = lenP p ∧ ∀ i, i < lenP p → sampB ((p.pl.getD k []).getD i 0) p.wd = true) := fun k hk => by
  have := hpl k hk
  unfold planeB at this
  obtain ⟨h1, h2⟩ := Bool.and_eq_true_iff.1 this
  have h3 := of_decide_eq_true h1
  refine ⟨h3, fun i hi => ?_⟩
  rw [List.all_eq_true] at h2
  apply h2
  rw [List.getD_eq_getElem?_getD (l := p.pl.getD k []), List.getElem?_eq_getElem (by omega)]
  exact List.getElem_mem _
 have HCK : Hid (∀ wx, Below w.heap.size w wx → Calls Tryz.prog 42 #[pcmV p ao cap] wx fun e w' => e = .returned (.int .i64 0) ∧ Below wx.heap.size wx w') := fun wx hx => by
  have := rcheck_spec p ao cap wx (hr.below hx)
  rwa [hc] at this
 have HLN : Hid (∀ wx, Below w.heap.size w wx → Calls Tryz.prog 40 #[pcmV p ao cap] wx fun e w' => e = .returned (.int .i64 (lenP p : Int)) ∧ Below wx.heap.size wx w') := fun wx hx => rlen_spec p ao cap wx (hr.below hx)
 have hchn : (p.ch.toNat : Int) = p.ch := by omega
 have HMX : Hid (∀ i k, i < lenP p → k ≤ p.ch.toNat → (packL p false false i ++ frameL p false false i k).length ≤ 100000000) := fun i k hi hk => by
  rw [List.length_append, packL_length, frameL_length]
  have h1 : i * (p.ch.toNat * nby p.wd) ≤ 1048576 * (8 * 4) := Nat.mul_le_mul (by omega) (Nat.mul_le_mul (by omega) n2)
  have h2 : k * nby p.wd ≤ 8 * 4 := Nat.mul_le_mul (by omega) n2
  omega
 obtain ⟨i0, hi0, hz0, hz1, hz2⟩ := info_parts Tryz.info5
 have HI : Hid (Tryz.prog.info? 5 = some i0 ∧ i0.zero = some (.int .u8 0) ∧ i0.size = 1 ∧ i0.bytes = 1) := ⟨hi0, hz0, hz1, hz2⟩
 clear hr hc hh hpl n4 hi0 hz0 hz1 hz2
 go_enter Tryz.func35, Tryz.ntmps35
 go_wp2_with fail
 generalize hwa : World.alloc _ _ = wa
 have HA : Hid (Pk w p ao cap false false (.slice none 0 0) [] wa) := by
  rw [← hwa]
  exact HP.out
 clear hwa HP
 refine (HCK.out wa HA.out.below).mono ?_
 rintro e w4 ⟨rfl, hB⟩
 have H4 : Hid (Pk w p ao cap false false (.slice none 0 0) [] w4) := HA.out.next hB
 have d2 := H4.out.c2
 clear hB HA
 go_wp2_with fail
 go_loopw [8, 9] (fun v t wr => ∃ i : Nat, i ≤ lenP p ∧ t = .int .i64 (i : Int) ∧ Pk w p ao cap false false v (packL p false false i) wr) (fun _ t _ => lenP p - (intOf t).toNat)
 case atStart => exact ⟨0, Nat.zero_le _, rfl, H4.out⟩
 case round =>
  clear H4 d2
  obtain ⟨i, hi, rfl, hpk⟩ := hrel
  have HB : Hid (Pk w p ao cap false false u8 (packL p false false i) wr) := hpk
  clear hpk
  have d0 := HB.out.c0
  have d1 := HB.out.c1
  have d2 := HB.out.c2
  have d3 := HB.out.c3
  by_cases hlt : i < lenP p
  ·go_wp2_with fail
   refine (HLN.out wr HB.out.below).mono ?_
   rintro e w5 ⟨rfl, hB5⟩
   have P5 : Hid (Pk w p ao cap false false u8 (packL p false false i) w5) := HB.out.next hB5
   clear hB5
   go_wp2_with fail
   go_loopw [8, 10] (fun v t wr => ∃ k : Nat, k ≤ p.ch.toNat ∧ t = .int .i64 (k : Int) ∧ Pk w p ao cap false false v (packL p false false i ++ frameL p false false i k) wr) (fun _ t _ => p.ch.toNat - (intOf t).toNat)
   case atStart => exact ⟨0, Nat.zero_le _, rfl, by rw [show packL p false false i ++ frameL p false false i 0 = packL p false false i from List.append_nil _]; exact P5.out⟩
   case round =>
    clear P5
    obtain ⟨k, hk, rfl, hpk⟩ := hrel
    have HB2 : Hid (Pk w p ao cap false false u8 (packL p false false i ++ frameL p false false i k) wr) := hpk
    clear hpk
    have e1 := HB2.out.c1
    have e2 := HB2.out.c2
    have e3 := HB2.out.c3
    have m1 := HB2.out.l1
    by_cases hkl : k < p.ch.toNat
    ·have hkp : k < p.pl.length := by omega
     obtain ⟨b, off, a, c, rfl, hll, hcell, hints⟩ := HR.out.at k hkp
     obtain ⟨hpl1, hpl2⟩ := HPL.out k hkp
     have hik : i < (p.pl.getD k []).length := by omega
     obtain ⟨b2, off2, rfl, hcell2, hn1, hn2⟩ := hints.at i hik
     have ec := hcell wr HB2.out.below
     have ek := hcell2 wr HB2.out.below
     have hsb := hpl2 i hlt
     have hs2 := of_decide_eq_true hsb
     rw [hkw, hH] at hs2
     obtain ⟨hs3, hs4⟩ := hs2
     obtain ⟨g1, g2, g3⟩ := codeN_fits p.wd false ((p.pl.getD k []).getD i 0) w1 w2 hsb
     obtain ⟨m, hm⟩ : ∃ m : Nat, codeN p.wd false ((p.pl.getD k []).getD i 0) = (m : Int) := ⟨(codeN p.wd false ((p.pl.getD k []).getD i 0)).toNat, by omega⟩
     have hcl : codeL false p.wd false ((p.pl.getD k []).getD i 0) = lowL m (nby p.wd) := by
      unfold codeL
      rw [hm]
      rfl
     have hmf : m < 256 ^ nby p.wd := by
      rw [hm] at g2
      have e : (256 : Int) ^ nby p.wd = ((256 ^ nby p.wd : Nat) : Int) := by simp
      rw [e] at g2
      omega
     have hfit : fitsB (m : Int) (nby p.wd : Int) = true := fits_of_nat m (nby p.wd) n1 (by omega) hmf
     have kle := refle_spec (m : Int) (nby p.wd : Int) (by omega) (by omega)
     have kbe := refbe_spec (m : Int) (nby p.wd : Int) (by omega) (by omega)
     rw [leT_nat m _ hfit, wE_yes _ _ hfit] at kle
     rw [beT_nat m _ hfit, wE_yes _ _ hfit] at kbe
     have hfr := frameL_succ p false false i k
     rw [hcl] at hfr
     have HLB := HMX.out i k hlt (by omega)
     have htx : (textOf (lowL m (nby p.wd))).size = nby p.wd := by rw [textOf_size, lowL_length]
     have HAP : Hid (∀ v7 w7 wx, Pk w p (some ⟨b, off, none⟩) cap false false u8 (packL p false false i ++ frameL p false false i k) wx → wx.grownBy w7 u8.ownBlock → w7.ownsRow (w.heap.size + 2) 5 1 v7 ((packL p false false i ++ frameL p false false i k).length + (textOf (lowL m (nby p.wd))).size) (((packL p false false i ++ frameL p false false i k).map fun (b : Nat) => Value.int .u8 (b : Int)) ++ Lib.strCells (textOf (lowL m (nby p.wd)))) → Pk w p (some ⟨b, off, none⟩) cap false false v7 (packL p false false i ++ frameL p false false i (k + 1)) w7) := fun v7 w7 wx hx hg ho => by
      refine hx.app hg ?_
      rw [strCells_textOf _ (lowL_lt _ _), ← List.map_append, List.append_assoc, ← hfr, htx] at ho
      have e : (packL p false false i ++ frameL p false false i (k + 1)).length = (packL p false false i ++ frameL p false false i k).length + nby p.wd := by
       rw [hfr, List.length_append, List.length_append, List.length_append, lowL_length]
       omega
      rw [e]
      exact ho
     have HN : Hid (codeN p.wd false ((p.pl.getD k []).getD i 0) = (m : Int)) := hm
     have HLBH : Hid ((packL p false false i ++ frameL p false false i k).length ≤ 100000000) := HLB
     clear hcell hcell2 hints hsb hpl1 hpl2 hcl hfr hm g2 hmf hfit HLB
     generalize (packL p false false i ++ frameL p false false i k) = LL at *
     generalize (p.pl.getD k []).getD i 0 = x at *
     generalize (p.pl.getD k []).length = ln at *
     generalize textOf (lowL m (nby p.wd)) = tx at *
     have hkc : (k : Int) < p.ch := by omega
     by_cases hx : x < 0
     ·have hadd : x + M = (m : Int) := by
       have h := HN.out
       unfold codeN at h
       rwa [if_neg (by decide), if_pos hx, hM] at h
      clear HN
      have h8 : (8 * (nby p.wd : Int)).toNat = 8 * nby p.wd := by omega
      go_wp2_with fail
      refine (kle wr).mono ?_
      rintro e w5 ⟨rfl, hB5⟩
      have P5 : Hid (Pk w p (some ⟨b, off, none⟩) cap false false u8 LL w5) := HB2.out.next hB5
      clear hB5
      have m0 := P5.out.l0
      go_wp2_with (first | (refine Lib.wpList_append_own_string _ rfl (.tmp 74) (.tmp 75) 107 9 rfl (w.heap.size + 2) 5 i0 Tryz.underlying107 Tryz.underlying9 HI.out.1 HI.out.2.1 HI.out.2.2.1 HI.out.2.2.2 u8 _ _ rfl P5.out.own tx rfl (by rw [htx]; have := HLBH.out; simp only [maxLen]; omega) (by rw [htx]; have := HLBH.out; omega) P5.out.size ?_; intro v7 w7 ho7 hg7 _))
      have P7 : Hid (Pk w p (some ⟨b, off, none⟩) cap false false v7 (packL p false false i ++ frameL p false false i (k + 1)) w7) := HAP.out v7 w7 w5 P5.out hg7 ho7
      clear ho7 hg7
      go_wp2_with fail
      go_roundw
      case rel => exact ⟨k + 1, by omega, by go_num, P7.out⟩
      case measure => simp [intOf]; omega
     ·have hadd : x = (m : Int) := by
       have h := HN.out
       unfold codeN at h
       rwa [if_neg (by decide), if_neg hx] at h
      clear HN
      subst hadd
      go_wp2_with fail
      refine (kle wr).mono ?_
      rintro e w5 ⟨rfl, hB5⟩
      have P5 : Hid (Pk w p (some ⟨b, off, none⟩) cap false false u8 LL w5) := HB2.out.next hB5
      clear hB5
      have m0 := P5.out.l0
      go_wp2_with (first | (refine Lib.wpList_append_own_string _ rfl (.tmp 74) (.tmp 75) 107 9 rfl (w.heap.size + 2) 5 i0 Tryz.underlying107 Tryz.underlying9 HI.out.1 HI.out.2.1 HI.out.2.2.1 HI.out.2.2.2 u8 _ _ rfl P5.out.own tx rfl (by rw [htx]; have := HLBH.out; simp only [maxLen]; omega) (by rw [htx]; have := HLBH.out; omega) P5.out.size ?_; intro v7 w7 ho7 hg7 _))
      have P7 : Hid (Pk w p (some ⟨b, off, none⟩) cap false false v7 (packL p false false i ++ frameL p false false i (k + 1)) w7) := HAP.out v7 w7 w5 P5.out hg7 ho7
      clear ho7 hg7
      go_wp2_with fail
      go_roundw
      case rel => exact ⟨k + 1, by omega, by go_num, P7.out⟩
      case measure => simp [intOf]; omega
    ·have hke : k = p.ch.toNat := by omega
     have HE : Hid (Pk w p ao cap false false u8 (packL p false false (i + 1)) wr) := by
      have := HB2.out
      rw [hke, ← packL_succ] at this
      exact this
     have hkc : ¬ (k : Int) < p.ch := by omega
     clear hke
     go_wp2_with fail
     go_roundw
     case rel => exact ⟨i + 1, by omega, by go_num, HE.out⟩
     case measure => simp [intOf]; omega
  ·have hie : i = lenP p := by omega
   have hcv : (convert 107 9 u8).run Tryz.prog wr = .ok (.string (textOf (packL p false false i))) wr := conv_own HB.out.own
   go_wp2_with fail
   refine (HLN.out wr HB.out.below).mono ?_
   rintro e w5 ⟨rfl, hB5⟩
   have P5 : Hid (Pk w p ao cap false false u8 (packL p false false i) w5) := HB.out.next hB5
   clear hB5 hcv
   have hcv : (convert 107 9 u8).run Tryz.prog w5 = .ok (.string (textOf (packL p false false i))) w5 := conv_own P5.out.own
   have HIE : Hid (i = lenP p) := hie
   clear hie
   go_wp2_with fail
   go_ret2
   exact ⟨by rw [← HIE.out]; rfl, P5.out.below⟩

/-- The document's Pack. -/
theorem rpack_spec (p : Pcm) (ao : Option Addr) (cap : Nat) (big uns : Bool) (w : World) (hr : RowsAt w ao p.pl) :
  Calls Tryz.prog 35 #[pcmV p ao cap, .agg #[.bool big, .bool uns]] w fun e w' => e = .returned (.tuple #[.string (packN p big uns), .int .i64 (checkN p)]) ∧ Below w.heap.size w w' := by
 by_cases hc : checkN p = 0
 ·unfold packN
  rw [if_pos hc, hc]
  cases big <;> cases uns
  ·exact rpack_false_false p ao cap w hr hc
  ·exact rpack_true_false p ao cap w hr hc
  ·exact rpack_false_true p ao cap w hr hc
  ·exact rpack_true_true p ao cap w hr hc
 ·unfold packN
  rw [if_neg hc]
  exact rpack_no p ao cap big uns w hr hc

end Go.Proofs.YtaepgjheknkojaaGreat
