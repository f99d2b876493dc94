/- Own text. -/
import Derived.Test.YthgpleelpeacjaaGreatDoorH19
set_option linter.unusedSimpArgs false
set_option linter.unusedVariables false
set_option maxRecDepth 20000
set_option maxHeartbeats 12800000
namespace Go.Proofs.YthgpleelpeacjaaGreatDoor
open Go.RowKit
theorem sig_put5 (h : Int) (h1 : 0 ≤ h) (h2 : h ≤ 15) : sigB h 5 = putB h 5 := by
 have e5 : (5 : Int).toNat = 5 := rfl
 unfold sigB putB
 rw [e5, if_pos ⟨by decide, by decide, by omega, by omega⟩, if_pos ⟨by decide, by decide, by omega⟩]
 unfold asU
 congr 1
 omega
theorem xe_k3 (on : Nat) (sw p h : Int) (C : List Int) (R : Rc) (ca : Option Addr) (cc : Nat) (pa : Option Addr) (pc : Nat) (ea : Option Addr) (ec : Nat) (v : Int) (l : List Int) (lo : Option Addr) (lc : Nat) (x : Nat) (ao : Option Addr) (B : List Nat) (hB : B.length ≤ 1300000000000) (w : World) (hq : SbAt w ⟨3, (on : Int), sw, p, h, C, R⟩ ca pa ea) (hl : IntsAt w lo l) (hw : XwB w x ao B) (hsub : subOk ⟨3, (on : Int), sw, p, h, C, R⟩ l.length v) (h31 : sw ≤ 31) (hgo : (∀ x ∈ l, sigE x v = 0) ∧ ((3 : Int) = 0 → ∀ x ∈ l, x = l.getD 0 0) ∧ dvB l sw.toNat = true) : Calls Tryz.prog 84 #[.pointer (some ⟨x, 0, none⟩), subV ⟨3, (on : Int), sw, p, h, C, R⟩ ca cc pa pc ea ec, .int .i64 v, .slice lo l.length lc] w fun en w' => XEnd w x ao B (subB ⟨3, (on : Int), sw, p, h, C, R⟩ v l) (encR R l.length (on : Int) (resN ⟨3, (on : Int), sw, p, h, C, R⟩ (shrL l sw.toNat))) en w' := by
 have HQ : Hid (SbAt w ⟨3, (on : Int), sw, p, h, C, R⟩ ca pa ea) := hq
 have HL : Hid (IntsAt w lo l) := hl
 have HW : Hid (XwB w x ao B) := hw
 have hln := hl.len
 have HSUB : Hid (subOk ⟨3, (on : Int), sw, p, h, C, R⟩ l.length v) := hsub
 have hv1 : 1 ≤ v ∧ v ≤ 33 := hsub.2.1
 have hb1 : 1 ≤ (l.length : Int) ∧ (l.length : Int) ≤ 65535 := hsub.1
 have hw1 : 0 ≤ sw ∧ sw < v := hsub.2.2.1
 have KC : Hid (∀ wx, Below w.heap.size w wx → Calls Tryz.prog 148 #[subV ⟨3, (on : Int), sw, p, h, C, R⟩ ca cc pa pc ea ec, .int .i64 (l.length : Int), .int .i64 v] wx fun e w' => e = .returned (.int .i64 0) ∧ Below wx.heap.size wx w') := fun wx hb => xchk10 ⟨3, (on : Int), sw, p, h, C, R⟩ ca cc pa pc ea ec l.length v 0 (fun _ => rfl) (fun h => absurd hsub h) wx (hq.below hb)
 have KG : Hid (∀ wx, Below w.heap.size w wx → Calls Tryz.prog 149 #[subV ⟨3, (on : Int), sw, p, h, C, R⟩ ca cc pa pc ea ec, .int .i64 v, .slice lo l.length lc] wx fun e w' => e = .returned (.bool true) ∧ Below wx.heap.size wx w') := fun wx hb => xgoes ⟨3, (on : Int), sw, p, h, C, R⟩ ca cc pa pc ea ec v hv1 ⟨hw1.1, h31⟩ l lo lc true (tt_iff hgo) wx (hl.below hb)
 have KS : Hid (∀ wx, Below w.heap.size w wx → Calls Tryz.prog 31 #[.slice lo l.length lc, .int .i64 sw] wx fun e w' => ∃ la lc2, e = .returned (.tuple #[.slice la l.length lc2, .int .i64 0]) ∧ IntsAt w' la (shrL l sw.toNat) ∧ Fr wx.heap.size la ∧ Below wx.heap.size wx w') := fun wx hb => (xshift_fr l sw lo lc wx (hl.below hb)).mono fun e w' hh => by
  have hR : shfR l sw = some (shrL l sw.toNat) := by unfold shfR; rw [if_pos ⟨⟨hw1.1, h31⟩, hgo.2.2⟩]
  obtain ⟨la, lc2, h1, h2, h3, h4⟩ := hh
  rw [hR] at h1 h2
  have e2 : (ansL (some (shrL l sw.toNat))).length = l.length := shr_len l sw.toNat
  rw [e2] at h1
  exact ⟨la, lc2, h1, h2, h3, h4⟩
 have HFM : Hid (∀ xx ∈ shrL l sw.toNat, sigE xx (v - sw) = 0) := by
  have g := shr_fit l v.toNat sw.toNat (by omega) (fun x hx => by rw [show ((v.toNat : Nat) : Int) = v by omega]; exact hgo.1 x hx) hgo.2.2
  rw [show ((v.toNat - sw.toNat : Nat) : Int) = v - sw by omega] at g
  exact g
 have hml : (shrL l sw.toNat).length = l.length := shr_len l sw.toNat
 clear hq hl hw hsub hgo
 have HA0 : Hid (SX w ⟨3, (on : Int), sw, p, h, C, R⟩ ca cc pa pc ea ec (w.alloc (.cells (subC ⟨3, (on : Int), sw, p, h, C, R⟩ ca cc pa pc ea ec) 27))) := SX.new w ⟨3, (on : Int), sw, p, h, C, R⟩ ca cc pa pc ea ec
 go_enter Tryz.func84, Tryz.ntmps84
 go_upto_region 1 with fail
 generalize hwa : World.alloc _ _ = wa at *
 clear hwa
 obtain ⟨x0, x1, x2, x3, x4, x5, x6, x7, x8, x9⟩ := sub_cells HA0.out.box
 go_wp2_with fail
 refine (KC.out wa HA0.out.below).mono ?_
 rintro e wb ⟨rfl, hb⟩
 have HA1 : Hid (SX w ⟨3, (on : Int), sw, p, h, C, R⟩ ca cc pa pc ea ec wb) := HA0.out.next hb
 clear hb HA0 x0 x1 x2 x3 x4 x5 x6 x7 x8 x9
 obtain ⟨x0, x1, x2, x3, x4, x5, x6, x7, x8, x9⟩ := sub_cells HA1.out.box
 go_wp2_with fail
 refine (KG.out wb HA1.out.below).mono ?_
 rintro e wd ⟨rfl, hb⟩
 have HA2 : Hid (SX w ⟨3, (on : Int), sw, p, h, C, R⟩ ca cc pa pc ea ec wd) := HA1.out.next hb
 clear hb HA1 KC KG x0 x1 x2 x3 x4 x5 x6 x7 x8 x9
 have H0 : Hid (XE w ⟨3, (on : Int), sw, p, h, C, R⟩ ca cc pa pc ea ec wd.heap.size none ([]) (wd.alloc (.cells #[.slice none 0 0] 126))) := XE.start HA2.out
 obtain ⟨x0, x1, x2, x3, x4, x5, x6, x7, x8, x9⟩ := sub_cells HA2.out.box
 clear HA2
 go_upto_region 10 with fail
 generalize hw0 : World.alloc _ _ = w0 at *
 generalize hyy : wd.heap.size = y at *
 clear hw0 hyy x0 x1 x2 x3 x4 x5 x6 x7 x8 x9
 have zk : ∀ ob : Obj, (w0.alloc ob).cell? ⟨w.heap.size, 0, none⟩ = some (.int .i64 3) := fun ob => by
  rw [World.cell?_of_block (w := w0) (((Below.refl _ _).alloc (Nat.le_refl _) ob).block _ (lt_of_block H0.out.sx.box))]
  exact (sub_cells H0.out.sx.box).1
 have ho33 : 0 ≤ (on : Int) ∧ (on : Int) ≤ 32 := by
  have g := HSUB.out.2.2.2
  rcases g with g | g | g
  ·have := g.2.2.1; simp only at this; omega
  ·have := g.2.2.1; have := g.2.2.2.1; simp only at *; omega
  ·have := g.2.1; have := g.2.2.1; simp only at *; omega
 have ht8 : wrap64 (8 + (on : Int)) = 8 + (on : Int) := by unfold wrap64; omega
 have ht31 : wrap64 (31 + (on : Int)) = 31 + (on : Int) := by unfold wrap64; omega
 have HZ1 : Hid (XE w ⟨3, (on : Int), sw, p, h, C, R⟩ ca cc pa pc ea ec y none ([]) (w0.alloc (.cells #[.int .i64 0, .int .i64 1, .int .i64 (8 + (on : Int)), .int .i64 (31 + (on : Int))] 3))) := H0.out.low ((Below.refl _ _).alloc (Nat.le_refl _) _)
 obtain ⟨x0, x1, x2, x3, x4, x5, x6, x7, x8, x9⟩ := sub_cells H0.out.sx.box
 go_upto_region 11 with fail
 generalize hw1 : World.alloc _ _ = w1 at *
 clear hw1 H0 zk x0 x1 x2 x3 x4 x5 x6 x7 x8 x9
 have H1 := HZ1
 clear HZ1
 obtain ⟨x0, x1, x2, x3, x4, x5, x6, x7, x8, x9⟩ := sub_cells H1.out.sx.box
 obtain ⟨D1, hD1⟩ : ∃ X : List Nat, X = [] := ⟨_, rfl⟩
 obtain ⟨a1, ha1⟩ : ∃ X : Option Addr, X = none := ⟨_, rfl⟩
 rw [← hD1, ← ha1] at H1
 have E1 : Hid (D1 = []) := hD1
 have l1 : D1.length ≤ 0 := by rw [hD1]; exact Nat.le_refl _
 clear hD1 ha1
 have hcu : IntKind.u64.wrap (31 + (on : Int)) = (31 + (on : Int)) := by rw [IntKind.wrap_u64]; omega
 have kp := xput_all w1 a1 D1 y (31 + (on : Int)) 7 (by omega) (by omega) (by omega) H1.out.xw
 go_wp2_with fail
 refine kp.mono ?_
 rintro e w2 ⟨rfl, a2, hw', hs', hm'⟩
 obtain ⟨D2, hD'⟩ : ∃ X, X = D1 ++ putB (31 + (on : Int)) 7 := ⟨_, rfl⟩
 rw [← hD'] at hw'
 have E2 : Hid (D2 = D1 ++ putB (31 + (on : Int)) 7) := hD'
 have l2 : D2.length ≤ 40000000 := by rw [hD', List.length_append]; have := putB_len (31 + (on : Int)) 7; omega
 have H2 : Hid (XE w ⟨3, (on : Int), sw, p, h, C, R⟩ ca cc pa pc ea ec y a2 (D2) w2) := H1.out.put hw' hs' hm'
 clear hw' hs' hm' kp hD' H1
 clear x0 x1 x2 x3 x4 x5 x6 x7 x8 x9
 obtain ⟨x0, x1, x2, x3, x4, x5, x6, x7, x8, x9⟩ := sub_cells H2.out.sx.box
 clear hcu
 by_cases hsw : 0 < sw
 focus
  have kp := xput_all w2 a2 D2 y 1 1 (by decide) (by decide) (by omega) H2.out.xw
  go_wp2_with fail
  refine kp.mono ?_
  rintro e w3 ⟨rfl, a3, hw', hs', hm'⟩
  obtain ⟨D3, hD'⟩ : ∃ X, X = D2 ++ putB 1 1 := ⟨_, rfl⟩
  rw [← hD'] at hw'
  have E3 : Hid (D3 = D2 ++ putB 1 1) := hD'
  have l3 : D3.length ≤ 60000000 := by rw [hD', List.length_append]; have := putB_len 1 1; omega
  have H3 : Hid (XE w ⟨3, (on : Int), sw, p, h, C, R⟩ ca cc pa pc ea ec y a3 (D3) w3) := H2.out.put hw' hs' hm'
  clear hw' hs' hm' kp hD' H2
  clear x0 x1 x2 x3 x4 x5 x6 x7 x8 x9
  obtain ⟨x0, x1, x2, x3, x4, x5, x6, x7, x8, x9⟩ := sub_cells H3.out.sx.box
  have kp := xunr_all w3 a3 D3 y (sw - 1) (by omega) H3.out.xw
  go_wp2_with fail
  refine kp.mono ?_
  rintro e w4 ⟨rfl, a4, hw', hs', hm'⟩
  obtain ⟨D4, hD'⟩ : ∃ X, X = D3 ++ unrB (sw - 1) := ⟨_, rfl⟩
  rw [← hD'] at hw'
  have E4 : Hid (D4 = D3 ++ unrB (sw - 1)) := hD'
  have l4 : D4.length ≤ 80000000 := by rw [hD', List.length_append]; have := unrB_len (sw - 1); omega
  have H4 : Hid (XE w ⟨3, (on : Int), sw, p, h, C, R⟩ ca cc pa pc ea ec y a4 (D4) w4) := H3.out.put hw' hs' hm'
  clear hw' hs' hm' kp hD' H3
  clear x0 x1 x2 x3 x4 x5 x6 x7 x8 x9
  obtain ⟨x0, x1, x2, x3, x4, x5, x6, x7, x8, x9⟩ := sub_cells H4.out.sx.box
  have EW : Hid (D4 = D2 ++ wstB sw) := by show _ = _; unfold wstB; rw [if_pos (by omega), E4.out, E3.out, List.append_assoc]
  clear E3 E4 hsw
  go_upto_region 16 with fail
  obtain ⟨D5, hD'⟩ : ∃ X, X = D4 := ⟨_, rfl⟩
  obtain ⟨a5, ha'⟩ : ∃ X, X = a4 := ⟨_, rfl⟩
  obtain ⟨w5, hw'⟩ : ∃ X, X = w4 := ⟨_, rfl⟩
  subst hD' ha' hw'
  have H5 := H4
  have l5 : D5.length ≤ 100000000 := by omega
  clear H4 l4
 rotate_left
 focus
  have kp := xput_all w2 a2 D2 y 0 1 (by decide) (by decide) (by omega) H2.out.xw
  go_wp2_with fail
  refine kp.mono ?_
  rintro e w3 ⟨rfl, a3, hw', hs', hm'⟩
  obtain ⟨D3, hD'⟩ : ∃ X, X = D2 ++ putB 0 1 := ⟨_, rfl⟩
  rw [← hD'] at hw'
  have E3 : Hid (D3 = D2 ++ putB 0 1) := hD'
  have l3 : D3.length ≤ 60000000 := by rw [hD', List.length_append]; have := putB_len 0 1; omega
  have H3 : Hid (XE w ⟨3, (on : Int), sw, p, h, C, R⟩ ca cc pa pc ea ec y a3 (D3) w3) := H2.out.put hw' hs' hm'
  clear hw' hs' hm' kp hD' H2
  clear x0 x1 x2 x3 x4 x5 x6 x7 x8 x9
  obtain ⟨x0, x1, x2, x3, x4, x5, x6, x7, x8, x9⟩ := sub_cells H3.out.sx.box
  have EW : Hid (D3 = D2 ++ wstB sw) := by show _ = _; unfold wstB; rw [if_neg (by omega), E3.out]
  clear E3 hsw
  go_upto_region 16 with fail
  obtain ⟨D5, hD'⟩ : ∃ X, X = D3 := ⟨_, rfl⟩
  obtain ⟨a5, ha'⟩ : ∃ X, X = a3 := ⟨_, rfl⟩
  obtain ⟨w5, hw'⟩ : ∃ X, X = w3 := ⟨_, rfl⟩
  subst hD' ha' hw'
  have H5 := H3
  have l5 : D5.length ≤ 100000000 := by omega
  clear H3 l3
 rotate_left
 all_goals
  have ks := KS.out w5 H5.out.sx.below
  have hvw : wrap64 (v - sw) = v - sw := by unfold wrap64; omega
  go_wp2_with fail
  refine ks.mono ?_
  rintro e w6 ⟨la, lc2, rfl, hi6, hf6, hb6⟩
  have H6 : Hid (XE w ⟨3, (on : Int), sw, p, h, C, R⟩ ca cc pa pc ea ec y a5 (D5) w6) := H5.out.low hb6
  have HM0 : Hid (IntsAt w6 la (shrL l sw.toNat)) := hi6
  have HOF0 : Hid (OffW w6.heap.size y a5 la) := fun b hb => by
   have h1 := hf6 b hb
   have h2 := H5.out.xw.lt
   refine ⟨?_, by omega, fun e => by have := H5.out.xw.blocks b e; omega⟩
   obtain ⟨bb, off, e2, hc⟩ := hi6.lies (by rw [hml]; omega)
   rw [e2] at hb
   have e3 : bb = b := by simpa [blockOf] using hb
   rw [← e3]
   exact lt_cell (hc 0 (by rw [hml]; omega))
  clear ks hi6 hf6 hb6 H5 KS x0 x1 x2 x3 x4 x5 x6 x7 x8 x9
  obtain ⟨M, hM⟩ : ∃ M, M = shrL l sw.toNat := ⟨_, rfl⟩
  rw [← hM] at hml HM0 HFM
  have HSM : Hid (M = shrL l sw.toNat) := hM
  have HML : Hid (M.length = l.length) := hml
  clear hM hml
  obtain ⟨x0, x1, x2, x3, x4, x5, x6, x7, x8, x9⟩ := sub_cells H6.out.sx.box
  have hNM : on ≤ l.length := by have := HSUB.out; rcases this.2.2.2 with g | g | g; (have := g.1; rcases this with e | e <;> cases e); (have := g.2.2.2.2.1; simp only at this; omega); (have := g.2.2.2.1; simp only at this; omega)
  go_wp2_with fail
  clear x0 x1 x2 x3 x4 x5 x6 x7 x8 x9
  go_loopw [17] (fun s17 wr => ∃ (n : Nat) (an : Option Addr), n ≤ on ∧ s17 = .int .i64 (n : Int) ∧ IntsAt wr la M ∧ OffW wr.heap.size y an la ∧ XE w ⟨3, (on : Int), sw, p, h, C, R⟩ ca cc pa pc ea ec y an (D5 ++ numsB 0 (v - sw) (M.take n)) wr) (fun s17 _ => on - (intOf s17).toNat)
  case atStart => exact ⟨0, a5, Nat.zero_le _, rfl, HM0.out, HOF0.out, by rw [List.take_zero, numsB_nil, List.append_nil]; exact H6.out⟩
  case round =>
   clear HM0 HOF0 H6
   obtain ⟨n, an, hn, rfl, hmi, hof, hxe⟩ := hrel
   have HMI : Hid (IntsAt wr la M) := hmi
   have HOF : Hid (OffW wr.heap.size y an la) := hof
   have HXE : Hid (XE w ⟨3, (on : Int), sw, p, h, C, R⟩ ca cc pa pc ea ec y an (D5 ++ numsB 0 (v - sw) (M.take n)) wr) := hxe
   clear hmi hof hxe
   have hlb : (D5 ++ numsB 0 (v - sw) (M.take n)).length ≤ 700000000 := by
    rw [List.length_append]
    have h1 := numsB_len 0 (v - sw) (M.take n)
    rw [List.length_take] at h1
    have h2 : 17000000 * min n M.length ≤ 17000000 * 32 := Nat.mul_le_mul_left _ (by have := HML.out; omega)
    omega
   by_cases hlt : n < on
   ·obtain ⟨bm, om, rfl⟩ := HMI.out.addr (by have := HML.out; omega)
    have hcell := HMI.out.get n (by have := HML.out; omega)
    have hmn := HMI.out.num _ (getD_mem M n (by have := HML.out; omega))
    have HTN : Hid (numsB 0 (v - sw) (M.take (n + 1)) = numsB 0 (v - sw) (M.take n) ++ sigB (M.getD n 0) (v - sw)) := by
     show _ = _
     rw [take_snoc M n (by have := HML.out; omega), numsB_snoc]
     congr 1
     unfold oneB; rw [if_neg (by omega), if_neg (by omega)]
    have kr := xsig_all wr an (D5 ++ numsB 0 (v - sw) (M.take n)) y (M.getD n 0) (v - sw) hmn.1 hmn.2 (by omega) HXE.out.xw
    clear hmn
    generalize M.getD n 0 = xv at *
    go_wp2_with fail
    refine kr.mono ?_
    rintro e w8 ⟨rfl, a8, h8, h9, h10⟩
    have HX8 : Hid (XE w ⟨3, (on : Int), sw, p, h, C, R⟩ ca cc pa pc ea ec y a8 (D5 ++ numsB 0 (v - sw) (M.take (n + 1))) w8) := by
     have g := HXE.out.put h8 h9 h10
     show XE _ _ _ _ _ _ _ _ _ _ _ _
     rw [HTN.out, ← List.append_assoc]; exact g
    have HK8 : Hid (IntsAt w8 (some ⟨bm, om, none⟩) M ∧ OffW w8.heap.size y a8 (some ⟨bm, om, none⟩)) := offw_keep HMI.out HOF.out h9 h10
    clear h8 h9 h10 kr hcell
    go_wp2_with fail
    go_roundw
    case rel => exact ⟨n + 1, a8, by omega, by go_num, HK8.out.1, HK8.out.2, HX8.out⟩
    case measure => simp [intOf]; omega
   ·have HNN : Hid (n = on) := by show _ = _; omega
    obtain ⟨D7, hD7⟩ : ∃ X, X = D5 ++ numsB 0 (v - sw) (M.take n) := ⟨_, rfl⟩
    rw [← hD7] at HXE hlb
    have ED7 : Hid (D7 = D5 ++ numsB 0 (v - sw) (M.take n)) := hD7
    clear hD7
    obtain ⟨x0, x1, x2, x3, x4, x5, x6, x7, x8, x9⟩ := sub_cells HXE.out.sx.box
    have HL3 : Hid (1 ≤ on ∧ on ≤ 32 ∧ 1 ≤ p ∧ p ≤ 15 ∧ 0 ≤ h ∧ h ≤ 15 ∧ C.length = on ∧ (∀ x ∈ C, sigE x p = 0)) := by
     rcases HSUB.out.2.2.2 with g | g | g
     ·rcases g.1 with e | e <;> cases e
     ·cases g.1
     ·obtain ⟨_, g1, g2, _, g3, g4, g5, g6, g7, g8, _⟩ := g
      simp only at g1 g2 g3 g4 g5 g6 g7 g8
      exact ⟨by omega, by omega, g3, g4, g5, g6, by omega, g8⟩
    have hp1 : 1 ≤ p ∧ p ≤ 15 := ⟨HL3.out.2.2.1, HL3.out.2.2.2.1⟩
    have hh1 : 0 ≤ h ∧ h ≤ 15 := ⟨HL3.out.2.2.2.2.1, HL3.out.2.2.2.2.2.1⟩
    obtain ⟨bc, oc, rfl⟩ := HQ.out.C.addr (by have := HL3.out; show 0 < C.length; omega)
    have HS0 : Hid ((XE w ⟨3, (on : Int), sw, p, h, C, R⟩ (some ⟨bc, oc, none⟩) cc pa pc ea ec y an (D7) wr) ∧ IntsAt wr la M ∧ OffW wr.heap.size y an la) := ⟨HXE.out, HMI.out, HOF.out⟩
    clear HXE HMI HOF
    have hcu : IntKind.u64.wrap (p - 1) = p - 1 := by rw [IntKind.wrap_u64]; omega
    have hcw : wrap64 (p - 1) = p - 1 := by unfold wrap64; omega
    have kp := xput_all wr an D7 y (p - 1) 4 (by omega) (by omega) (by omega) HS0.out.1.xw
    go_wp2_with fail
    refine kp.mono ?_
    rintro e v1 ⟨rfl, b1, hw', hs', hm'⟩
    obtain ⟨G1, hD'⟩ : ∃ X, X = D7 ++ putB (p - 1) 4 := ⟨_, rfl⟩
    rw [← hD'] at hw'
    have EG1 : Hid (G1 = D7 ++ putB (p - 1) 4) := hD'
    have lg1 : G1.length ≤ 800000000 := by rw [hD', List.length_append]; have := putB_len (p - 1) 4; omega
    have HS1 : Hid ((XE w ⟨3, (on : Int), sw, p, h, C, R⟩ (some ⟨bc, oc, none⟩) cc pa pc ea ec y b1 (G1) v1) ∧ IntsAt v1 la M ∧ OffW v1.heap.size y b1 la) := ⟨HS0.out.1.put hw' hs' hm', (offw_keep HS0.out.2.1 HS0.out.2.2 hs' hm').1, (offw_keep HS0.out.2.1 HS0.out.2.2 hs' hm').2⟩
    clear hw' hs' hm' kp hD' HS0
    clear x0 x1 x2 x3 x4 x5 x6 x7 x8 x9
    obtain ⟨x0, x1, x2, x3, x4, x5, x6, x7, x8, x9⟩ := sub_cells HS1.out.1.sx.box
    clear hcu hcw
    have kp := xsig_all v1 b1 G1 y h 5 (by omega) (by omega) (by omega) HS1.out.1.xw
    go_wp2_with fail
    refine kp.mono ?_
    rintro e v2 ⟨rfl, b2, hw', hs', hm'⟩
    obtain ⟨G2, hD'⟩ : ∃ X, X = G1 ++ sigB h 5 := ⟨_, rfl⟩
    rw [← hD'] at hw'
    have EG2 : Hid (G2 = G1 ++ sigB h 5) := hD'
    have lg2 : G2.length ≤ 900000000 := by rw [hD', List.length_append]; have := sigB_len h 5; omega
    have HS2 : Hid ((XE w ⟨3, (on : Int), sw, p, h, C, R⟩ (some ⟨bc, oc, none⟩) cc pa pc ea ec y b2 (G2) v2) ∧ IntsAt v2 la M ∧ OffW v2.heap.size y b2 la) := ⟨HS1.out.1.put hw' hs' hm', (offw_keep HS1.out.2.1 HS1.out.2.2 hs' hm').1, (offw_keep HS1.out.2.1 HS1.out.2.2 hs' hm').2⟩
    clear hw' hs' hm' kp hD' HS1
    clear x0 x1 x2 x3 x4 x5 x6 x7 x8 x9
    obtain ⟨x0, x1, x2, x3, x4, x5, x6, x7, x8, x9⟩ := sub_cells HS2.out.1.sx.box
    go_wp2_with fail
    clear x0 x1 x2 x3 x4 x5 x6 x7 x8 x9
    go_loopw [20] (fun s20 wr => ∃ (m : Nat) (am : Option Addr), m ≤ on ∧ s20 = .int .i64 (m : Int) ∧ (XE w ⟨3, (on : Int), sw, p, h, C, R⟩ (some ⟨bc, oc, none⟩) cc pa pc ea ec y am (G2 ++ numsB 0 p (C.take m)) wr) ∧ IntsAt wr la M ∧ OffW wr.heap.size y am la) (fun s20 _ => on - (intOf s20).toNat)
    case atStart => exact ⟨0, b2, Nat.zero_le _, rfl, by rw [List.take_zero, numsB_nil, List.append_nil]; exact HS2.out⟩
    case round =>
     clear HS2
     obtain ⟨m, am, hm, rfl, hst⟩ := hrel
     have HST : Hid ((XE w ⟨3, (on : Int), sw, p, h, C, R⟩ (some ⟨bc, oc, none⟩) cc pa pc ea ec y am (G2 ++ numsB 0 p (C.take m)) wr) ∧ IntsAt wr la M ∧ OffW wr.heap.size y am la) := hst
     clear hst
     have hlc : (G2 ++ numsB 0 p (C.take m)).length ≤ 1500000000 := by
      rw [List.length_append]
      have h1 := numsB_len 0 p (C.take m)
      rw [List.length_take] at h1
      have h2 : 17000000 * min m C.length ≤ 17000000 * 32 := Nat.mul_le_mul_left _ (by have := HL3.out; omega)
      omega
     obtain ⟨x0, x1, x2, x3, x4, x5, x6, x7, x8, x9⟩ := sub_cells HST.out.1.sx.box
     by_cases hlt : m < on
     ·have HMC : Hid (m < C.length) := by have := HL3.out.2.2.2.2.2.2.1; show _ < _; omega
      have hmc : (m : Int) < (C.length : Int) := by have := HMC.out; omega
      have HC0 : Hid (IntsAt w (some ⟨bc, oc, none⟩) C) := HQ.out.C
      have hmn := HC0.out.num _ (getD_mem C m HMC.out)
      have HTN : Hid (G2 ++ numsB 0 p (C.take (m + 1)) = G2 ++ numsB 0 p (C.take m) ++ sigB (C.getD m 0) p) := by
       show _ = _
       rw [take_snoc C m HMC.out, numsB_snoc, List.append_assoc]
       congr 2
       unfold oneB; rw [if_neg (by omega), if_neg (by omega)]
      have HCL : Hid (∀ aw Bw wx, Hid ((XE w ⟨3, (on : Int), sw, p, h, C, R⟩ (some ⟨bc, oc, none⟩) cc pa pc ea ec y aw (Bw) wx) ∧ IntsAt wx la M ∧ OffW wx.heap.size y aw la) → wx.cell? ⟨bc, oc + m, none⟩ = some (.int .i64 (C.getD m 0)) ∧ wx.cell? ⟨w.heap.size, 3, none⟩ = some (.int .i64 p) ∧ wx.cell? ⟨w.heap.size, 5, none⟩ = some (.slice (some ⟨bc, oc, none⟩) C.length cc)) := fun aw Bw wx hx => ⟨(HC0.out.below hx.out.1.sx.below).get m HMC.out, (sub_cells hx.out.1.sx.box).2.2.2.1, (sub_cells hx.out.1.sx.box).2.2.2.2.2.1⟩
      have HD : Hid ((XE w ⟨3, (on : Int), sw, p, h, C, R⟩ (some ⟨bc, oc, none⟩) cc pa pc ea ec y am (G2 ++ numsB 0 p (C.take m)) wr.drew) ∧ IntsAt wr.drew la M ∧ OffW wr.drew.heap.size y am la) := ⟨HST.out.1.low ⟨rfl, rfl, rfl, Nat.le_refl _, fun _ _ => rfl⟩, HST.out.2.1.below ⟨rfl, rfl, rfl, Nat.le_refl _, fun _ _ => rfl⟩, HST.out.2.2⟩
      generalize G2 ++ numsB 0 p (C.take m) = BN at *
      generalize C.getD m 0 = xv at *
      have KR : Hid (∀ wx, Hid ((XE w ⟨3, (on : Int), sw, p, h, C, R⟩ (some ⟨bc, oc, none⟩) cc pa pc ea ec y am (BN) wx) ∧ IntsAt wx la M ∧ OffW wx.heap.size y am la) → Calls Tryz.prog 152 #[.pointer (some ⟨y, 0, none⟩), .int .i64 xv, .int .i64 p] wx fun e w' => ∃ ee, e = .returned (.int .i64 ee) ∧ ∃ ao', Hid ((XE w ⟨3, (on : Int), sw, p, h, C, R⟩ (some ⟨bc, oc, none⟩) cc pa pc ea ec y ao' (BN ++ sigB xv p) w') ∧ IntsAt w' la M ∧ OffW w'.heap.size y ao' la)) := fun wx hx => (xsig_all wx am BN y xv p hmn.1 hmn.2 (by omega) hx.out.1.xw).mono fun e w' hh => by
       obtain ⟨h1, ao', h2, h3, h4⟩ := hh
       exact ⟨_, h1, ao', hx.out.1.put h2 h3 h4, (offw_keep hx.out.2.1 hx.out.2.2 h3 h4).1, (offw_keep hx.out.2.1 hx.out.2.2 h3 h4).2⟩
      clear hmn HST
      have hm0 : (0 : Int) ≤ (m : Int) := by omega
      go_wp2_with fail
      clear x0 x1 x2 x3 x4 x5 x6 x7 x8 x9
      go_region_held3 (fun wx => wx.cell? ⟨bc, oc + m, none⟩ = some (.int .i64 xv) ∧ wx.cell? ⟨w.heap.size, 3, none⟩ = some (.int .i64 p) ∧ wx.cell? ⟨w.heap.size, 5, none⟩ = some (.slice (some ⟨bc, oc, none⟩) C.length cc)) (exact HCL.out _ _ _ (by assumption))
       ((go_at_call 152; refine (KR.out _ (by assumption)).mono ?_; rintro e w8 ⟨ee, rfl, a8, h8⟩))
      go_wp2_with fail
      go_roundw
      case rel => exact ⟨m + 1, a8, by omega, by go_num, by rw [HTN.out]; exact h8.out⟩
      case measure => simp [intOf]; omega
     ·have HCT : Hid (C.take m = C) := List.take_of_length_le (by have := HL3.out.2.2.2.2.2.2.1; omega)
      obtain ⟨G3, hG3⟩ : ∃ X, X = G2 ++ numsB 0 p (C.take m) := ⟨_, rfl⟩
      rw [← hG3] at HST hlc
      have EG3 : Hid (G3 = G2 ++ numsB 0 p (C.take m)) := hG3
      clear hG3
      have HX3 : Hid (XE w ⟨3, (on : Int), sw, p, h, C, R⟩ (some ⟨bc, oc, none⟩) cc pa pc ea ec y am (G3) wr) := HST.out.1
      have HMI : Hid (IntsAt wr la M) := HST.out.2.1
      clear HST
      have HSP5 : Hid (sigB h 5 = putB h 5) := sig_put5 h hh1.1 hh1.2
      obtain ⟨RS, hRS⟩ : ∃ X, X = leftN C h.toNat M (M.length - on) := ⟨_, rfl⟩
      have HRS : Hid (RS = resN ⟨3, (on : Int), sw, p, h, C, R⟩ (shrL l sw.toNat)) := by
       show _ = _
       rw [hRS, HSM.out]
       unfold resN
       simp
      have hrl : RS.length = M.length - on := by rw [hRS]; exact leftN_len _ _ _ _
      have hrs5 : RS.length ≤ 65535 := by rw [hrl]; have := HML.out; omega
      have hlM : (shrL l sw.toNat).length = l.length := shr_len l sw.toNat
      have kx0 := xlpc_spec C M h (some ⟨bc, oc, none⟩) la cc lc2 wr (HQ.out.C.below HX3.out.sx.below) HMI.out
      have hfx : lpcR C h M = some RS := by
       have g := HL3.out
       unfold lpcR
       rw [if_pos ⟨by unfold mayB; simp only [Bool.and_eq_true, decide_eq_true_eq]; omega, by have := HML.out; omega⟩, hRS, g.2.2.2.2.2.2.1]
      rw [hfx, HML.out] at kx0
      have kx : Calls Tryz.prog 34 #[.slice (some ⟨bc, oc, none⟩) C.length cc, .int .i64 h, .slice la l.length lc2] wr fun e w' => ∃ ra rcp, e = .returned (.tuple #[.slice ra RS.length rcp, .int .i64 0]) ∧ IntsAt w' ra RS ∧ Below wr.heap.size wr w' := kx0
      clear kx0 hfx hRS hrl
      go_wp2_with fail
      refine kx.mono ?_
      rintro e w9 ⟨ra, rcp, rfl, hri, hrb⟩
      have H9 : Hid (XE w ⟨3, (on : Int), sw, p, h, C, R⟩ (some ⟨bc, oc, none⟩) cc pa pc ea ec y am (G3) w9) := HX3.out.low hrb
      have HRI : Hid (IntsAt w9 ra RS) := hri
      clear hri hrb kx HX3 x0 x1 x2 x3 x4 x5 x6 x7 x8 x9
      obtain ⟨x0, x1, x2, x3, x4, x5, x6, x7, x8, x9⟩ := sub_cells H9.out.sx.box
      have ke := xenc_all R RS ⟨trivial, hrs5⟩ pa pc ea ec ra rcp y w9 (HQ.out.R.below H9.out.sx.below) HRI.out am G3 (by omega) H9.out.xw (l.length : Int) (on : Int)
      cases her : encR R (l.length : Int) (on : Int) RS with
      | false =>
       have e60 : encN R (l.length : Int) (on : Int) RS = 60 := by unfold encN; rw [her]; rfl
       rw [e60] at ke
       have HOK : Hid (encR R l.length (on : Int) (resN ⟨3, (on : Int), sw, p, h, C, R⟩ (shrL l sw.toNat)) = false) := by show _ = _; rw [← HRS.out]; exact her
       clear e60 her
       go_wp2_with fail
       refine ke.mono ?_
       rintro e w10 ⟨rfl, a10, g1, g2, g3⟩
       have HX10 : Hid (XE w ⟨3, (on : Int), sw, p, h, C, R⟩ (some ⟨bc, oc, none⟩) cc pa pc ea ec y a10 (G3 ++ encL R (l.length : Int) (on : Int) RS) w10) := H9.out.put g1 g2 g3
       clear g1 g2 g3 ke
       go_wp2_with fail
       go_ret
       rw [HOK.out]
       exact XEnd.no HW.out HX10.out.sx.below
      | true =>
       have e0 : encN R (l.length : Int) (on : Int) RS = 0 := by unfold encN; rw [her]; rfl
       have eL : encL R (l.length : Int) (on : Int) RS = encB R l.length on RS := by unfold encL; rw [her]; simp
       rw [e0, eL] at ke
       have HOK : Hid (encR R l.length (on : Int) (resN ⟨3, (on : Int), sw, p, h, C, R⟩ (shrL l sw.toNat)) = true) := by show _ = _; rw [← HRS.out]; exact her
       have hroom : (encB R l.length on RS).length ≤ 1300000000000 := by
        obtain ⟨b2, o2, r2, q1, q2, q3, q4⟩ := encR_yes her
        have e1 : b2 = l.length := by omega
        have e2 : r2 = on := by omega
        subst e1 e2
        exact encB_room R _ o2 _ q3 RS ((fitB_iff _ _ _ _ _).1 q4).1 hrs5
       clear e0 eL her
       go_wp2_with fail
       refine ke.mono ?_
       rintro e w10 ⟨rfl, a10, g1, g2, g3⟩
       obtain ⟨D10, hD10⟩ : ∃ X, X = G3 ++ encB R l.length on RS := ⟨_, rfl⟩
       rw [← hD10] at g1
       have HX10 : Hid (XE w ⟨3, (on : Int), sw, p, h, C, R⟩ (some ⟨bc, oc, none⟩) cc pa pc ea ec y a10 (D10) w10) := H9.out.put g1 g2 g3
       have ED10 : Hid (D10 = G3 ++ encB R l.length on RS) := hD10
       have hl10 : D10.length ≤ 5000000000000 := by rw [hD10, List.length_append]; omega
       have ESUB : Hid (D10 = subB ⟨3, (on : Int), sw, p, h, C, R⟩ v l) := by
        show _ = _
        rw [ED10.out, EG3.out, HCT.out, EG2.out, HSP5.out, EG1.out, ED7.out, EW.out, E2.out, E1.out, List.nil_append, HNN.out, HRS.out, HSM.out]
        unfold subB typN bodyB
        simp [hlM]
       clear g1 g2 g3 ke hD10 H9 x0 x1 x2 x3 x4 x5 x6 x7 x8 x9
       obtain ⟨x0, x1, x2, x3, x4, x5, x6, x7, x8, x9⟩ := sub_cells HX10.out.sx.box
       go_wp2_with fail
       have HPOS : Hid (0 < D10.length) := by
        show _ < _
        have h7 : (putB (31 + (on : Int)) 7).length = 7 := by
         unfold putB
         rw [if_pos ⟨by decide, by decide, by have e : (2 : Int) ^ (7 : Int).toNat = 128 := rfl; omega⟩, bitsOf_length]
         rfl
        rw [ED10.out, EG3.out, HCT.out, EG2.out, HSP5.out, EG1.out, ED7.out, EW.out, E2.out]
        simp only [List.length_append, h7]
        omega
       obtain ⟨cx, hXx⟩ : XwB w10.drew x ao B := HW.out.below (HX10.out.sx.below.drew)
       obtain ⟨cy, hXy⟩ := (HX10.out.low (w' := w10.drew) ⟨rfl, rfl, rfl, Nat.le_refl _, fun _ _ => rfl⟩).xw
       obtain ⟨ao2, cap2, hv2, _, _, hn2, hs2⟩ := owns_shape hXy.own
       cases hv2
       obtain ⟨g, hg⟩ : ∃ g, a10 = some ⟨g, 0, none⟩ := by
        cases haj : a10 with
        | none => have h1 := (hn2 haj).1; have h2 := HPOS.out; omega
        | some a => exact ⟨a.block, by rw [(hs2 a haj).1]⟩
       subst hg
       have c0 : w10.drew.cell? ⟨x, 0, none⟩ = some (.slice ao B.length cx) := hXx.c0
       have c1 : w10.drew.cell? ⟨y, 0, none⟩ = some (.slice (some ⟨g, 0, none⟩) D10.length cy) := hXy.c0
       have HXx : Hid (Xw w10.drew x ao cx B) := hXx
       have HXy : Hid (Xw w10.drew y (some ⟨g, 0, none⟩) cy D10) := hXy
       have HNW : Hid (∀ k u, (byteVals D10)[k]? = some u → w10.drew.cell? ((⟨g, 0, none⟩ : Addr).add k) = some u) := fun k u hk => by
        have hk2 : k < (byteVals D10).length := by
         rcases Nat.lt_or_ge k (byteVals D10).length with h1 | h1
         ·exact h1
         ·rw [List.getElem?_eq_none h1] at hk; cases hk
        rw [byteVals_length] at hk2
        have hh := HXy.out.own.cellAt k (by omega)
        rw [Addr.add_mid, Nat.zero_add, hh, hk]
       have HI5 : Hid (∃ i0, Tryz.prog.info? 5 = some i0 ∧ i0.zero = some (.int .u8 0) ∧ i0.size = 1 ∧ i0.bytes = 1) := by
        have h := Tryz.info5
        cases hq : Tryz.prog.info? 5 with
        | none => rw [hq] at h; cases h
        | some i =>
         rw [hq] at h
         simp only [Option.map_some, Option.some.injEq, Prod.mk.injEq] at h
         exact ⟨i, rfl, h.1, h.2.1, h.2.2⟩
       obtain ⟨i0, hi0, hz0, hz1, hz2⟩ := HI5.out
       have HI : Hid (Tryz.prog.info? 5 = some i0 ∧ i0.zero = some (.int .u8 0) ∧ i0.size = 1 ∧ i0.bytes = 1) := ⟨hi0, hz0, hz1, hz2⟩
       have HGB : Hid (∀ w6 : World, Hid (w10.drew.grownBy w6 (blockOf ao)) → w6.cell? ⟨x, 0, none⟩ = some (.slice ao B.length cx) ∧ w6.frozen? ⟨x, 0, none⟩ = false) := fun w6 hg => by
        have hb := hg.out.block x HXx.out.lt (fun e => HXx.out.ne e.symm)
        exact ⟨by rw [World.cell?_of_block (w := w10.drew) hb]; exact HXx.out.c0, by rw [World.frozen?_of_block (w := w10.drew) hb]; exact HXx.out.f 0⟩
       clear hXx hXy hn2 hs2 hi0 hz0 hz1 hz2 HI5
       clear x0 x1 x2 x3 x4 x5 x6 x7 x8 x9
       go_region_law ((refine step_append_mine _ rfl (.tmp 171) (.tmp 175) 103 rfl 5 i0 (.int .u8 0) 1 Tryz.underlying103 HI.out.1 HI.out.2.1 HI.out.2.2.1 HI.out.2.2.2 rfl ao cx B.length (byteVals B) (by simp [Act.eval, Act.put]) HXx.out.own ⟨g, 0, none⟩ D10.length cy (byteVals D10) (by simp [Act.eval, Act.put]) (byteVals_length _) HNW.out (byteVals_one _) (by simp only [maxLen]; omega) (by omega) ?_; intro ao6 cap6 w6 hown hgr hmv; obtain ⟨k0, k1⟩ := HGB.out w6 hgr))
       all_goals go_wp2_with fail
       all_goals go_ret
       all_goals rw [HOK.out]
       all_goals refine ⟨rfl, ao6, ?_, ?_, ?_⟩
       all_goals try rw [← ESUB.out]
       all_goals first
        | exact ⟨cap6, HXx.out.setSlice (B' := B ++ D10) hgr.out hmv.out _ (by rw [List.length_append]) (by rw [byteVals_append]; exact hown.out)⟩
        | exact ((Stays.of_below HX10.out.sx.below.drew _).trans (Stays.of_grown hgr.out (S := foot x ao) (fun k hk => Or.inr hk)) (fun _ _ h => h)).setCell _ _ (Or.inl (Or.inl rfl))
        | exact (Moved.refl w.heap.size ao).trans hmv.out HX10.out.sx.below.size
end Go.Proofs.YthgpleelpeacjaaGreatDoor
