/- Own text. -/
import Derived.Test.YthgpleelpeacjaaGreatDoorH20
import Derived.Test.YthgpleelpeacjaaGreatDoorH21
import Derived.Test.YthgpleelpeacjaaGreatDoorH22
import Derived.Test.YthgpleelpeacjaaGreatDoorH23
set_option linter.unusedSimpArgs false
set_option linter.unusedVariables false
set_option maxRecDepth 20000
set_option maxHeartbeats 12800000
namespace Go.Proofs.YthgpleelpeacjaaGreatDoor
open Go.RowKit
theorem xe_no (q : Sb) (ca : Option Addr) (cc : Nat) (pa : Option Addr) (pc : Nat) (ea : Option Addr) (ec : Nat) (v : Int) (l : List Int) (lo : Option Addr) (lc : Nat) (x : Nat) (ao : Option Addr) (B : List Nat) (hB : B.length ≤ 1300000000000) (w : World) (hq : SbAt w q ca pa ea) (hl : IntsAt w lo l) (hw : XwB w x ao B) (hsub : subOk q l.length v) (h31 : q.w ≤ 31) (hno : ¬ ((∀ x ∈ l, sigE x v = 0) ∧ (q.k = 0 → ∀ x ∈ l, x = l.getD 0 0) ∧ dvB l q.w.toNat = true)) (E : List Nat) : Calls Tryz.prog 84 #[.pointer (some ⟨x, 0, none⟩), subV q ca cc pa pc ea ec, .int .i64 v, .slice lo l.length lc] w fun en w' => XEnd w x ao B E false en w' := by
 have HW : Hid (XwB w x ao B) := hw
 have hln := hl.len
 have hv1 : 1 ≤ v ∧ v ≤ 33 := hsub.2.1
 have hw1 : 0 ≤ q.w ∧ q.w < v := hsub.2.2.1
 have KC : Hid (∀ wx, Below w.heap.size w wx → Calls Tryz.prog 148 #[subV q ca cc pa pc ea ec, .int .i64 (l.length : Int), .int .i64 v] wx fun e w' => e = .returned (.int .i64 0) ∧ Below wx.heap.size wx w') := fun wx hb => xchk10 q ca cc pa pc ea ec l.length v 0 (fun _ => rfl) (fun h => absurd hsub h) wx (hq.below hb)
 have KG : Hid (∀ wx, Below w.heap.size w wx → Calls Tryz.prog 149 #[subV q ca cc pa pc ea ec, .int .i64 v, .slice lo l.length lc] wx fun e w' => e = .returned (.bool false) ∧ Below wx.heap.size wx w') := fun wx hb => xgoes q ca cc pa pc ea ec v hv1 ⟨hw1.1, h31⟩ l lo lc false (ff_iff hno) wx (hl.below hb)
 clear hq hl hw hsub hno
 have HA0 : Hid (SX w q ca cc pa pc ea ec (w.alloc (.cells (subC q ca cc pa pc ea ec) 27))) := SX.new w q ca cc pa pc ea ec
 go_enter Tryz.func84, Tryz.ntmps84
 go_upto_region 1 with fail
 generalize hwa : World.alloc _ _ = wa at *
 clear hwa
 obtain ⟨x0, x1, x2, x3, x4, x5, x6, x7, x8, x9⟩ := sub_cells HA0.out.box
 go_wp2_with fail
 refine (KC.out wa HA0.out.below).mono ?_
 rintro e wb ⟨rfl, hb⟩
 have HA1 : Hid (SX w q ca cc pa pc ea ec wb) := HA0.out.next hb
 clear hb HA0 x0 x1 x2 x3 x4 x5 x6 x7 x8 x9
 obtain ⟨x0, x1, x2, x3, x4, x5, x6, x7, x8, x9⟩ := sub_cells HA1.out.box
 go_wp2_with fail
 refine (KG.out wb HA1.out.below).mono ?_
 rintro e wd ⟨rfl, hb⟩
 have HA2 : Hid (SX w q ca cc pa pc ea ec wd) := HA1.out.next hb
 clear hb HA1 KC KG x0 x1 x2 x3 x4 x5 x6 x7 x8 x9
 go_wp2_with fail
 go_ret
 exact XEnd.no HW.out HA2.out.below
theorem xenc10 (q : Sb) (ca : Option Addr) (cc : Nat) (pa : Option Addr) (pc : Nat) (ea : Option Addr) (ec : Nat) (v : Int) (l : List Int) (lo : Option Addr) (lc : Nat) (x : Nat) (ao : Option Addr) (B : List Nat) (hB : B.length ≤ 1300000000000) (w : World) (hq : SbAt w q ca pa ea) (hl : IntsAt w lo l) (hw : XwB w x ao B) (hsub : subOk q l.length v) (h31 : q.w ≤ 31) (bb : Bool) (hbb : bb = true ↔ goesOk q v l) : Calls Tryz.prog 84 #[.pointer (some ⟨x, 0, none⟩), subV q ca cc pa pc ea ec, .int .i64 v, .slice lo l.length lc] w fun en w' => XEnd w x ao B (subB q v l) bb en w' := by
 by_cases hgo : ((∀ x ∈ l, sigE x v = 0) ∧ (q.k = 0 → ∀ x ∈ l, x = l.getD 0 0) ∧ dvB l q.w.toNat = true)
 case neg =>
  rw [bb_no hbb (fun h => hgo ⟨h.1, h.2.2.1, h.2.1⟩)]
  exact xe_no q ca cc pa pc ea ec v l lo lc x ao B hB w hq hl hw hsub h31 hgo _
 obtain ⟨k, o, sw, p, h, C, R⟩ := q
 have e23 : ∀ b2 : Bool, (k = 2 ∨ k = 3) → b2 = encR R l.length o (resN ⟨k, o, sw, p, h, C, R⟩ (shrL l sw.toNat)) → bb = b2 := fun b2 hk e => by
  cases b2 with
  | true => exact hbb.2 ⟨hgo.1, hgo.2.2, hgo.2.1, fun _ => e.symm⟩
  | false =>
   cases hb : bb with
   | false => rfl
   | true => have := (hbb.1 hb).2.2.2 hk; rw [← e] at this; cases this
 rcases hsub.2.2.2 with g | g | g
 ·have et : bb = true := hbb.2 ⟨hgo.1, hgo.2.2, hgo.2.1, fun hk => by
   have := g.1
   simp only at this hk
   omega⟩
  rw [et]
  rcases g.1 with e | e
  ·simp only at e
   subst e
   exact xe_k0 o sw p h C R ca cc pa pc ea ec v l lo lc x ao B hB w hq hl hw hsub h31 hgo
  ·simp only at e
   subst e
   exact xe_k1 o sw p h C R ca cc pa pc ea ec v l lo lc x ao B hB w hq hl hw hsub h31 hgo
 ·have e := g.1
  have h0 := g.2.2.1
  simp only at e h0
  subst e
  obtain ⟨on, rfl⟩ : ∃ n : Nat, o = n := ⟨o.toNat, by omega⟩
  rw [e23 _ (.inl rfl) rfl]
  exact xe_k2 on sw p h C R ca cc pa pc ea ec v l lo lc x ao B hB w hq hl hw hsub h31 hgo
 ·have e := g.1
  have h0 := g.2.1
  simp only at e h0
  subst e
  obtain ⟨on, rfl⟩ : ∃ n : Nat, o = n := ⟨o.toNat, by omega⟩
  rw [e23 _ (.inr rfl) rfl]
  exact xe_k3 on sw p h C R ca cc pa pc ea ec v l lo lc x ao B hB w hq hl hw hsub h31 hgo
def bitI (bb : Bool) (n : Nat) : Int := if bb = true then (n : Int) else -1
theorem xbits12 (q : Sb) (ca : Option Addr) (cc : Nat) (pa : Option Addr) (pc : Nat) (ea : Option Addr) (ec : Nat) (v : Int) (l : List Int) (lo : Option Addr) (lc : Nat) (w : World) (hq : SbAt w q ca pa ea) (hl : IntsAt w lo l) (hsub : subOk q l.length v) (h31 : q.w ≤ 31) (bb : Bool) (hbb : bb = true ↔ goesOk q v l) : Calls Tryz.prog 36 #[subV q ca cc pa pc ea ec, .int .i64 v, .slice lo l.length lc] w fun en w' => en = .returned (.int .i64 (bitI bb (subB q v l).length)) ∧ Below w.heap.size w w' := by
 have KE : Hid (∀ wx x, Below w.heap.size w wx → XwB wx x none [] → Calls Tryz.prog 84 #[.pointer (some ⟨x, 0, none⟩), subV q ca cc pa pc ea ec, .int .i64 v, .slice lo l.length lc] wx fun en w' => XEnd wx x none [] (subB q v l) bb en w') := fun wx x hb hx => xenc10 q ca cc pa pc ea ec v l lo lc x none [] (Nat.zero_le _) wx (hq.below hb) (hl.below hb) hx hsub h31 bb hbb
 clear hq hl hsub hbb h31
 have HA0 : Hid (SX w q ca cc pa pc ea ec (w.alloc (.cells (subC q ca cc pa pc ea ec) 27))) := SX.new w q ca cc pa pc ea ec
 go_enter Tryz.func36, Tryz.ntmps36
 go_upto_region 1 with fail
 generalize hwa : World.alloc _ _ = wa at *
 clear hwa
 have HA1 : Hid (SX w q ca cc pa pc ea ec (wa.alloc (.cells #[.slice none 0 0] 126))) := HA0.out.next ((Below.refl _ _).alloc (Nat.le_refl _) _)
 have HX1 : Hid (XwB (wa.alloc (.cells #[.slice none 0 0] 126)) wa.heap.size none []) := XwB.new wa
 have hge : w.heap.size < wa.heap.size := lt_of_block HA0.out.box
 clear HA0
 go_upto_region 2 with fail
 generalize hwb : World.alloc _ _ = wb at *
 generalize hyy : wa.heap.size = y at *
 clear hwb hyy
 obtain ⟨x0, x1, x2, x3, x4, x5, x6, x7, x8, x9⟩ := sub_cells HA1.out.box
 go_wp2_with fail
 refine (KE.out wb y HA1.out.below HX1.out).mono ?_
 rintro e w3 hend
 have HE : Hid (XEnd wb y none [] (subB q v l) bb e w3) := hend
 have HAB : Hid (Below w.heap.size w wb) := HA1.out.below
 clear hend HA1 HX1 x0 x1 x2 x3 x4 x5 x6 x7 x8 x9 KE
 cases bb with
 | true =>
  obtain ⟨e0, aj, hx, hs, hm⟩ := HE.out
  obtain ⟨cap, hx⟩ := hx
  have e0' := e0
  subst e0'
  have c0 : w3.cell? ⟨y, 0, none⟩ = some (.slice aj (subB q v l).length cap) := by rw [cell_of_row _ _ _ _ _ _ hx.blk]; rfl
  have HB3 : Hid (Below w.heap.size w w3) := HAB.out.trans (foot_below hs HAB.out.size (Nat.le_of_lt hge) (fun b hb => by cases hb))
  clear hx hs hm HE
  go_wp2_with fail
  go_ret
  exact ⟨rfl, HB3.out⟩
 | false =>
  obtain ⟨e0, aj, hx, hs, hm⟩ := HE.out
  have e0' := e0
  subst e0'
  have HB3 : Hid (Below w.heap.size w w3) := HAB.out.trans (foot_below hs HAB.out.size (Nat.le_of_lt hge) (fun b hb => by cases hb))
  clear hx hs hm HE
  go_wp2_with fail
  go_ret
  exact ⟨rfl, HB3.out⟩
theorem own_cap {w : World} {base e z : Nat} {ao : Option Addr} {n cap : Nat} {xs : List Value} (h : w.ownsRow base e z (.slice ao n cap) n xs) : n ≤ cap ∧ (ao = none → cap = 0) := by
 rcases h.2 with ⟨hv, h0⟩ | ⟨g, cap2, cur, hv, hb, hrest⟩
 ·cases hv; exact ⟨Nat.le_refl _, fun _ => rfl⟩
 ·cases hv; exact ⟨hrest.2.1, fun h => by cases h⟩
def Ret2C (R : Option (List Int)) (w : World) (e : Ending) (w' : World) : Prop := ∃ la lc, e = .returned (.tuple #[.slice la (ansL R).length lc, .int .i64 (ansE R)]) ∧ IntsAt w' la (ansL R) ∧ ((ansL R).length ≤ lc ∧ (la = none → lc = 0)) ∧ Below w.heap.size w w'
theorem retc_none {R : Option (List Int)} (h : R = none) {w w' : World} {e : Ending} (he : e = .returned (.tuple #[.slice none 0 0, .int .i64 1])) (hb : Below w.heap.size w w') : Ret2C R w e w' := by
 subst h; exact ⟨none, 0, he, IntsAt.nil w', ⟨Nat.le_refl _, fun _ => rfl⟩, hb⟩
theorem retc_some {R : Option (List Int)} {L : List Int} (h : R = some L) {w w' : World} {e : Ending} {la : Option Addr} {lc : Nat} (he : e = .returned (.tuple #[.slice la L.length lc, .int .i64 0])) (hi : IntsAt w' la L) (hc : L.length ≤ lc ∧ (la = none → lc = 0)) (hb : Below w.heap.size w w') : Ret2C R w e w' := by
 subst h; exact ⟨la, lc, he, hi, hc, hb⟩
theorem xfixed_cap (o : Int) (l : List Int) (la : Option Addr) (lc : Nat) (w : World) (hl : IntsAt w la l) : Calls Tryz.prog 33 #[.int .i64 o, .slice la l.length lc] w (Ret2C (fixR o l) w) := by
 have h1 := hl.len
 by_cases h1 : o < 0
 ·have HR : Hid (fixR o l = none) := by show _ = _; unfold fixR; rw [if_neg (by omega)]
  go_enter Tryz.func33, Tryz.ntmps33
  go_wp2_with fail
  go_ret2
  exact retc_none HR.out rfl (Below.refl _ _)
 ·skip
  by_cases h2 : 4 < o
  ·have HR : Hid (fixR o l = none) := by show _ = _; unfold fixR; rw [if_neg (by omega)]
   go_enter Tryz.func33, Tryz.ntmps33
   go_wp2_with fail
   go_ret2
   exact retc_none HR.out rfl (Below.refl _ _)
  ·skip
   by_cases h3 : (l.length : Int) < o
   ·have HR : Hid (fixR o l = none) := by show _ = _; unfold fixR; rw [if_neg (by omega)]
    go_enter Tryz.func33, Tryz.ntmps33
    go_wp2_with fail
    go_ret2
    exact retc_none HR.out rfl (Below.refl _ _)
   ·skip
    obtain ⟨o', rfl⟩ : ∃ o' : Nat, o = (o' : Int) := ⟨o.toNat, by omega⟩
    have ho4 : o' ≤ 4 := by omega
    have hol : o' ≤ l.length := by omega
    have HR : Hid (fixR (o' : Int) l = some (leftN (wF o') 0 l (l.length - (wF o').length))) := by
     show _ = _
     unfold fixR; rw [if_pos (by omega), wF_len o' ho4]; rfl
    have kw := xweights_spec o' ho4 w
    have hwl := wF_len o' ho4
    have HL : Hid (IntsAt w la l) := hl
    clear hl
    go_enter Tryz.func33, Tryz.ntmps33
    go_wp2_with fail
    refine kw.mono ?_
    rintro e w2 ⟨ca, cc, rfl, hc, hb2⟩
    have kl := xleft_spec (wF o') l ca la cc lc 0 (by omega) (by omega) w2 hc (HL.out.below hb2)
    have HB2 : Hid (Below w.heap.size w w2) := hb2
    have HLN : Hid ((leftN (wF o') 0 l (l.length - (wF o').length)).length ≤ 17592186044415 ∧ ∀ n ∈ leftN (wF o') 0 l (l.length - (wF o').length), -9223372036854775808 ≤ n ∧ n ≤ 9223372036854775807) := ⟨by rw [leftN_len]; omega, leftN_rng _ _ _ _⟩
    clear kw hb2 hc hwl
    generalize leftN (wF o') 0 l (l.length - (wF o').length) = R at *
    go_wp2_with fail
    refine kl.mono ?_
    rintro e w3 ⟨v, rfl, hout⟩
    obtain ⟨ao, ac, rfl⟩ := hout.shape
    have HI : Hid (IntsAt w3 ao R ∧ (R.length ≤ ac ∧ (ao = none → ac = 0)) ∧ Below w.heap.size w w3) := ⟨hout.ints HLN.out.1 HLN.out.2, own_cap hout.own, HB2.out.trans (hout.below.mono HB2.out.size)⟩
    clear hout kl
    go_wp2_with fail
    go_ret2
    exact retc_some HR.out rfl HI.out.1 HI.out.2.1 HI.out.2.2
theorem xlpc_cap (C l : List Int) (sh : Int) (ca la : Option Addr) (cc lc : Nat) (w : World) (hC : IntsAt w ca C) (hl : IntsAt w la l) : Calls Tryz.prog 34 #[.slice ca C.length cc, .int .i64 sh, .slice la l.length lc] w (Ret2C (lpcR C sh l) w) := by
 have km := xmay_spec C sh ca cc w hC
 have h1 := hC.len
 have h2 := hl.len
 have HC : Hid (IntsAt w ca C) := hC
 have HL : Hid (IntsAt w la l) := hl
 clear hC hl
 cases hm : mayB C sh with
 | false =>
  have HR : Hid (lpcR C sh l = none) := by show _ = _; unfold lpcR; rw [hm, if_neg (fun h => by cases h.1)]
  rw [hm] at km
  clear hm
  go_enter Tryz.func34, Tryz.ntmps34
  go_wp2_with fail
  refine km.mono ?_
  rintro e w2 ⟨rfl, rfl⟩
  go_wp2_with fail
  go_ret2
  exact retc_none HR.out rfl (Below.refl _ _)
 | true =>
  obtain ⟨m1, m2, m3, m4⟩ := (mayB_iff C sh).1 hm
  obtain ⟨s', rfl⟩ : ∃ s' : Nat, sh = (s' : Int) := ⟨sh.toNat, by omega⟩
  have hs31 : s' ≤ 31 := by omega
  by_cases hk : C.length ≤ l.length
  ·have hk2 : (C.length : Int) ≤ (l.length : Int) := by omega
   have HR : Hid (lpcR C (s' : Int) l = some (leftN C s' l (l.length - C.length))) := by show _ = _; unfold lpcR; rw [hm, if_pos ⟨rfl, hk⟩]; rfl
   rw [hm] at km
   clear hm
   go_enter Tryz.func34, Tryz.ntmps34
   go_wp2_with fail
   refine km.mono ?_
   rintro e w2 ⟨rfl, rfl⟩
   have kl := xleft_spec C l ca la cc lc s' hs31 hk w2 HC.out HL.out
   have HLN : Hid ((leftN C s' l (l.length - C.length)).length ≤ 17592186044415 ∧ ∀ n ∈ leftN C s' l (l.length - C.length), -9223372036854775808 ≤ n ∧ n ≤ 9223372036854775807) := ⟨by rw [leftN_len]; omega, leftN_rng _ _ _ _⟩
   generalize leftN C s' l (l.length - C.length) = R at *
   clear km
   go_wp2_with fail
   refine kl.mono ?_
   rintro e w3 ⟨v, rfl, hout⟩
   obtain ⟨ao, ac, rfl⟩ := hout.shape
   have HI : Hid (IntsAt w3 ao R ∧ (R.length ≤ ac ∧ (ao = none → ac = 0)) ∧ Below w2.heap.size w2 w3) := ⟨hout.ints HLN.out.1 HLN.out.2, own_cap hout.own, hout.below⟩
   clear hout kl
   go_wp2_with fail
   go_ret2
   exact retc_some HR.out rfl HI.out.1 HI.out.2.1 HI.out.2.2
  ·have HR : Hid (lpcR C (s' : Int) l = none) := by show _ = _; unfold lpcR; rw [if_neg (fun h => hk h.2)]
   have hk2 : (l.length : Int) < (C.length : Int) := by omega
   rw [hm] at km
   clear hm
   go_enter Tryz.func34, Tryz.ntmps34
   go_wp2_with fail
   refine km.mono ?_
   rintro e w2 ⟨rfl, rfl⟩
   go_wp2_with fail
   go_ret2
   exact retc_none HR.out rfl (Below.refl _ _)
structure Two (S : Nat → Prop) (k : Nat) (w0 : World) (mm oo : Int) (b2 b3 vP vE : Value) (P E : List Int) (X : World) : Prop where
 hS : ∀ i, k ≤ i → S i
 fr : Stays S w0 X
 bx : X.heap[k]? = some (.cells #[.int .i64 mm, .int .i64 oo, b2, b3] 25 (0, 0))
 oP : X.ownsRow (k + 1) 3 1 vP P.length (intsC P)
 oE : X.ownsRow (k + 1) 3 1 vE E.length (intsC E)
 ab : ∀ g, vP.ownBlock = some g → vE.ownBlock ≠ some g
section
variable {S : Nat → Prop} {k : Nat} {w0 X X' : World} {mm oo : Int} {b2 b3 vP vE : Value} {P E : List Int}
theorem Two.lt (h : Two S k w0 mm oo b2 b3 vP vE P E X) : k < X.heap.size := lt_of_block h.bx
theorem Two.low (h : Two S k w0 mm oo b2 b3 vP vE P E X) (hb : Below X.heap.size X X') : Two S k w0 mm oo b2 b3 vP vE P E X' :=
 ⟨h.hS, h.fr.trans (Stays.of_below hb S) (fun _ _ h => h), by rw [hb.block _ h.lt]; exact h.bx, own_low h.oP hb, own_low h.oE hb, h.ab⟩
theorem Two.drew (h : Two S k w0 mm oo b2 b3 vP vE P E X) : Two S k w0 mm oo b2 b3 vP vE P E X.drew := h.low ⟨rfl, rfl, rfl, Nat.le_refl _, fun _ _ => rfl⟩
theorem Two.alloc (h : Two S k w0 mm oo b2 b3 vP vE P E X) (o : Obj) : Two S k w0 mm oo b2 b3 vP vE P E (X.alloc o) := h.low ((Below.refl _ _).alloc (Nat.le_refl _) _)
theorem Two.pushP (h : Two S k w0 mm oo b2 b3 vP vE P E X) {g cap : Nat} {w1 : World} {p : Int} (ho : w1.ownsRow (k + 1) 3 1 (.slice (some ⟨g, 0, none⟩) (P.length + 1) cap) (P.length + 1) (intsC P ++ [.int .i64 p])) (hg : X.grownBy w1 vP.ownBlock) (hat : vP.ownBlock = some g ∨ g = X.heap.size) :
  Two S k w0 mm oo b2 b3 (.slice (some ⟨g, 0, none⟩) (P.length + 1) cap) vE (P ++ [p]) E w1 := by
 refine ⟨h.hS, h.fr.trans (Stays.of_grown hg (fun b hb => h.hS b (by have := h.oP.lt b hb; omega))) (fun _ _ h => h), ?_, ?_, ?_, fun x hx hy => ?_⟩
 ·rw [hg.block k h.lt (fun e => by have := h.oP.lt k e.symm; omega)]; exact h.bx
 ·rw [List.length_append, intsC_append]; exact ho
 ·refine h.oE.kept hg ?_
  cases e : vE.ownBlock with
  | none => exact .inl rfl
  | some y => exact .inr (fun e2 => h.ab y e2.symm e)
 ·have e : g = x := by simpa [Value.ownBlock] using hx
  subst e
  rcases hat with h1 | h1
  ·exact h.ab _ h1 hy
  ·have := h.oE.lt _ hy; omega
theorem Two.pushE (h : Two S k w0 mm oo b2 b3 vP vE P E X) {g cap : Nat} {w1 : World} {p : Int} (ho : w1.ownsRow (k + 1) 3 1 (.slice (some ⟨g, 0, none⟩) (E.length + 1) cap) (E.length + 1) (intsC E ++ [.int .i64 p])) (hg : X.grownBy w1 vE.ownBlock) (hat : vE.ownBlock = some g ∨ g = X.heap.size) :
  Two S k w0 mm oo b2 b3 vP (.slice (some ⟨g, 0, none⟩) (E.length + 1) cap) P (E ++ [p]) w1 := by
 refine ⟨h.hS, h.fr.trans (Stays.of_grown hg (fun b hb => h.hS b (by have := h.oE.lt b hb; omega))) (fun _ _ h => h), ?_, ?_, ?_, fun x hx hy => ?_⟩
 ·rw [hg.block k h.lt (fun e => by have := h.oE.lt k e.symm; omega)]; exact h.bx
 ·refine h.oP.kept hg ?_
  cases e : vP.ownBlock with
  | none => exact .inl rfl
  | some y => exact .inr (fun e2 => h.ab y e e2.symm)
 ·rw [List.length_append, intsC_append]; exact ho
 ·have e : g = x := by simpa [Value.ownBlock] using hy
  subst e
  rcases hat with h1 | h1
  ·exact h.ab _ hx h1
  ·have := h.oP.lt _ hx; omega
theorem Two.set (h : Two S k w0 mm oo b2 b3 vP vE P E X) : Two S k w0 mm oo vP vE vP vE P E ((X.setCell ⟨k, 2, none⟩ vP).setCell ⟨k, 3, none⟩ vE) := by
 refine ⟨h.hS, (h.fr.setCell _ _ (.inl (h.hS k (Nat.le_refl _)))).setCell _ _ (.inl (h.hS k (Nat.le_refl _))), ?_, ownsRow_setCell_below (ownsRow_setCell_below h.oP (Nat.lt_succ_self k) _) (Nat.lt_succ_self k) _, ownsRow_setCell_below (ownsRow_setCell_below h.oE (Nat.lt_succ_self k) _) (Nat.lt_succ_self k) _, h.ab⟩
 rw [block_setCell _ _ _ _ _ _ (block_setCell _ _ _ _ _ _ h.bx)]
 rfl
theorem Two.cells (h : Two S k w0 mm oo b2 b3 vP vE P E X) : X.cell? ⟨k, 0, none⟩ = some (.int .i64 mm) ∧ X.cell? ⟨k, 1, none⟩ = some (.int .i64 oo) ∧ X.cell? ⟨k, 2, none⟩ = some b2 ∧ X.cell? ⟨k, 3, none⟩ = some b3 := by
 refine ⟨?_, ?_, ?_, ?_⟩ <;> (rw [cell_of_row _ _ _ _ _ _ h.bx]; rfl)
theorem Two.frozen (h : Two S k w0 mm oo b2 b3 vP vE P E X) (o : Nat) : X.frozen? ⟨k, o, none⟩ = false := by simp [World.frozen?, h.bx]
theorem Two.shape (h : Two S k w0 mm oo b2 b3 vP vE P E X) : ∃ pa pc ea ec, vP = .slice pa P.length pc ∧ vE = .slice ea E.length ec := by
 obtain ⟨pa, pc, h1, _⟩ := owns_shape h.oP
 obtain ⟨ea, ec, h2, _⟩ := owns_shape h.oE
 exact ⟨pa, pc, ea, ec, h1, h2⟩
end
theorem tmp_next (X : World) (o : Obj) (v : Value) : ((X.alloc o).alloc (.cells #[v] 3)).heap[X.heap.size + 1]? = some (.cells #[v] 3 (0, 0)) := by
 have := heap_alloc_new (X.alloc o) (.cells #[v] 3)
 rwa [show (X.alloc o).heap.size = X.heap.size + 1 from by simp] at this
theorem tmp_old (X : World) (o : Obj) (v : Value) : ((X.alloc (.cells #[v] 3)).alloc o).heap[X.heap.size]? = some (.cells #[v] 3 (0, 0)) := heap_two _ _ _
theorem tmp_kept {X w1 : World} {B : Nat} {o : Obj} {row : Option Nat} (hg : X.grownBy w1 row) (hB : X.heap[B]? = some o) (hne : row ≠ some B) : w1.heap[B]? = some o := by
 rw [hg.block B (lt_of_block hB) (fun e => hne e.symm)]; exact hB
end Go.Proofs.YthgpleelpeacjaaGreatDoor
