/- Own text. -/
import Derived.Shelf.Abstract
import Derived.Test.YthgpleelpeacjaaGreatDoorH6
import Derived.Laws.CopyRow
import Derived.Laws.IdiomCopy
import Derived.Laws.OwnMore
set_option linter.unusedSimpArgs false
set_option linter.unusedVariables false
set_option maxRecDepth 20000
set_option maxHeartbeats 12800000
namespace Go.Proofs.YthgpleelpeacjaaGreatDoor
open Go.RowKit
theorem qleft_spec (C l : List Int) (ca la : Option Addr) (cc lc sh b : Nat) (hsh : sh ≤ 31) (hCl : C.length ≤ l.length) (hlc : l.length ≤ lc) (w : World) (hL : Lin b C ca cc sh w) (hl : IntsAt w la l) :
  Calls Tryz.prog 214 #[linV b, .int .i64 (C.length : Int), .slice la l.length lc] w fun e w' => ∃ ga gc, e = .returned (.slice ga (leftN C sh l (l.length - C.length)).length gc) ∧ Made w ga gc (leftN C sh l (l.length - C.length)) w' := by
 have h1 := hl.len
 have HL : Hid (IntsAt w la l) := hl
 have HLI : Hid (Lin b C ca cc sh w) := hL
 have hmk := make_ints (l.length - C.length) (by omega)
 have hsb : (l.length : Int) - (C.length : Int) = ((l.length - C.length : Nat) : Int) := by omega
 have HLL : Hid ((leftN C sh l (l.length - C.length)).length = l.length - C.length) := leftN_len _ _ _ _
 have HRG : Hid (Rng (leftN C sh l (l.length - C.length))) := leftN_rng _ _ _ _
 have HAT : Hid (∀ i, i < l.length - C.length → (leftN C sh l (l.length - C.length)).getD i 0 = wrap64 (l.getD (i + C.length) 0 - foreN C sh l (i + C.length))) := fun i hi => by
  rw [leftN_at C sh l _ i hi, Nat.add_comm]
 have HM : Hid (∀ L : List Int, L.length = l.length - C.length → Fill w w.heap.size L 0 (w.alloc (.cells (madeCells #[.int .i64 0] (l.length - C.length)) 3))) := fun L hLl => by
  have := Fill.made w w (Below.refl _ _) L
  rw [hLl] at this; exact this
 have KC : Hid (∀ i, i + C.length ≤ l.length → ∀ b1 o1, la = some ⟨b1, o1, none⟩ → ∀ pc wx, Below w.heap.size w wx → Calls Tryz.prog 234 (#[.slice (some ⟨b1, o1 + i, none⟩) C.length pc] ++ #[.pointer (some ⟨b, 0, none⟩), .pointer (some ⟨b + 1, 0, none⟩)]) wx fun e w' => e = .returned (.int .i64 (foreN C sh l (i + C.length))) ∧ w' = wx) := fun i hi b1 o1 hla pc wx hbx => by
  have hpl : ((l.drop i).take C.length).length = C.length := by rw [List.length_take, List.length_drop]; omega
  have hpt := hl.part i C.length hi (some ⟨b1, o1 + i, none⟩) (fun b off e _ => by rw [hla] at e; cases e; rfl)
  have hh := qclos_spec C ((l.drop i).take C.length) ca (some ⟨b1, o1 + i, none⟩) cc pc sh b hsh (by rw [hpl]; exact Nat.le_refl _) wx (hL.below hbx) (hpt.below hbx)
  rw [hpl, foreN_part] at hh
  exact hh
 clear hl hL
 generalize leftN C sh l (l.length - C.length) = L at *
 generalize hn : l.length - C.length = n at *
 generalize hq : C.length = q at *
 have HNQ : Hid (n + q = l.length) := by show _ = _; omega
 clear hn hq hCl
 go_enter Tryz.func214, Tryz.ntmps214
 go_wp2_with fail
 generalize hwa : w.alloc _ = wa at *
 have HA : Hid (Fill w w.heap.size L 0 wa) := HM.out L HLL.out
 clear hwa HM hmk
 go_loopw [8, 16] (fun s8 s16 wr => ∃ i : Nat, i ≤ n ∧ s16 = .int .i64 (i : Int) ∧ Fill w w.heap.size L i wr) (fun _ s16 _ => n - (intOf s16).toNat)
 case atStart => exact ⟨0, Nat.zero_le _, rfl, HA.out⟩
 case round =>
  clear HA
  obtain ⟨i, hi, rfl, hf⟩ := hrel
  have HA : Hid (Fill w w.heap.size L i wr) := hf
  clear hf
  by_cases hlt : i < n
  ·obtain ⟨b1, o1, rfl, q1⟩ := HL.out.at (i + q) (by have := HNQ.out; omega)
   have HQ1 : Hid (∀ wx, Below w.heap.size w wx → wx.cell? ⟨b1, o1 + (i + q), none⟩ = some (.int .i64 (l.getD (i + q) 0))) := fun wx hh => q1 wx hh
   have HK : Hid (∀ pc wx, Below w.heap.size w wx → Calls Tryz.prog 234 (#[.slice (some ⟨b1, o1 + i, none⟩) q pc] ++ #[.pointer (some ⟨b, 0, none⟩), .pointer (some ⟨b + 1, 0, none⟩)]) wx fun e w' => e = .returned (.int .i64 (foreN C sh l (i + q))) ∧ w' = wx) := fun pc wx hh => KC.out i (by have := HNQ.out; omega) b1 o1 rfl pc wx hh
   have hv0 : Hid (wrap64 (l.getD (i + q) 0 - foreN C sh l (i + q)) = L.getD i 0) := (HAT.out i hlt).symm
   have HNX : Hid (Fill w w.heap.size L (i + 1) (wr.drew.setCell ⟨w.heap.size, i, none⟩ (.int .i64 (wrap64 (l.getD (i + q) 0 - foreN C sh l (i + q)))))) := by rw [hv0.out]; exact HA.out.drew.set (by rw [HLL.out]; exact hlt)
   have HD : Hid (Fill w w.heap.size L i wr.drew) := HA.out.drew
   have hpl : i + q < l.length := by have := HNQ.out; omega
   obtain ⟨p, hp⟩ : ∃ p : Nat, p = i + q := ⟨_, rfl⟩
   have hpi : (i : Int) + (q : Int) = (p : Int) := by omega
   have hpq : p - i = q := by omega
   rw [← hp] at HQ1 HK HNX hpl q1
   have hip : i ≤ p := by omega
   have hpl2 : (p : Int) < (l.length : Int) := by omega
   have hpc2 : (p : Int) ≤ (lc : Int) := by omega
   have hip2 : (i : Int) ≤ (p : Int) := by omega
   have hpi3 : (p : Int) - (i : Int) = (q : Int) := by omega
   have hwp : IntKind.i64.wrap (p : Int) = (p : Int) := by rw [IntKind.wrap_i64]; omega
   have hne : ¬ lc = i := by omega
   have HPE : Hid (p = i + q) := hp
   clear hp
   have HCL : Hid (∀ wx, Hid (Fill w w.heap.size L i wx) → (∃ v : Int, wx.cell? ⟨w.heap.size, i, none⟩ = some (.int .i64 v)) ∧ wx.frozen? ⟨w.heap.size, i, none⟩ = false) := fun wx hh => ⟨⟨_, hh.out.cell i (by rw [HLL.out]; exact hlt)⟩, hh.out.frozen _⟩
   clear q1 HA hv0
   generalize l.getD p 0 = x at *
   generalize foreN C sh l p = fo at *
   go_wp2_with fail
   refine wp_region_held_drew (S := fun wx => Below w.heap.size w wx) (by kernel_rfl) HD.out.below (fun hS => ?_)
   refine wpAnyH_take (i := 0) (v := .slice (some ⟨w.heap.size, 0, none⟩) n n) rfl (by kernel_rfl) (by kernel_rfl) (by kernel_rfl) (fun _ _ _ h => h) (Or.inl ⟨by rfl, fun w hSw => by go_simp⟩) hS ?_
   simp only [Act.put, List.getElem_toArray, List.getElem_cons_succ, List.getElem_cons_zero, List.setIfInBounds_toArray, List.set_cons_zero, List.set_cons_succ]
   refine wpAnyH_take (i := 1) (v := .int .i64 (i : Int)) rfl (by kernel_rfl) (by kernel_rfl) (by kernel_rfl) (fun _ _ _ h => h) (Or.inl ⟨by rfl, fun w hSw => by go_simp⟩) hS ?_
   simp only [Act.put, List.getElem_toArray, List.getElem_cons_succ, List.getElem_cons_zero, List.setIfInBounds_toArray, List.set_cons_zero, List.set_cons_succ]
   refine wpAnyH_take (i := 2) (v := .slice (some ⟨b1, o1, none⟩) l.length lc) rfl (by kernel_rfl) (by kernel_rfl) (by kernel_rfl) (fun _ _ _ h => h) (Or.inl ⟨by rfl, fun w hSw => by go_simp⟩) hS ?_
   simp only [Act.put, List.getElem_toArray, List.getElem_cons_succ, List.getElem_cons_zero, List.setIfInBounds_toArray, List.set_cons_zero, List.set_cons_succ]
   refine wpAnyH_take (i := 3) (v := .int .i64 (i : Int)) rfl (by kernel_rfl) (by kernel_rfl) (by kernel_rfl) (fun _ _ _ h => h) (Or.inl ⟨by rfl, fun w hSw => by go_simp⟩) hS ?_
   simp only [Act.put, List.getElem_toArray, List.getElem_cons_succ, List.getElem_cons_zero, List.setIfInBounds_toArray, List.set_cons_zero, List.set_cons_succ]
   refine wpAnyH_take (i := 4) (v := .int .i64 (q : Int)) rfl (by kernel_rfl) (by kernel_rfl) (by kernel_rfl) (fun _ _ _ h => h) (Or.inl ⟨by rfl, fun w hSw => by go_simp⟩) hS ?_
   simp only [Act.put, List.getElem_toArray, List.getElem_cons_succ, List.getElem_cons_zero, List.setIfInBounds_toArray, List.set_cons_zero, List.set_cons_succ]
   refine wpAnyH_take (i := 5) (v := .int .i64 (p : Int)) rfl (by kernel_rfl) (by kernel_rfl) (by kernel_rfl) (fun _ _ _ h => h) (Or.inl ⟨by rfl, fun w hSw => by go_simp⟩) hS ?_
   simp only [Act.put, List.getElem_toArray, List.getElem_cons_succ, List.getElem_cons_zero, List.setIfInBounds_toArray, List.set_cons_zero, List.set_cons_succ]
   refine wpAnyH_take (i := 6) (v := .pointer (some ⟨b1, o1 + p, none⟩)) rfl (by kernel_rfl) (by kernel_rfl) (by kernel_rfl) (fun _ _ _ h => h) (Or.inl ⟨by rfl, fun w hSw => by go_simp⟩) hS ?_
   simp only [Act.put, List.getElem_toArray, List.getElem_cons_succ, List.getElem_cons_zero, List.setIfInBounds_toArray, List.set_cons_zero, List.set_cons_succ]
   refine wpAnyH_take (i := 7) (v := .int .i64 x) rfl (by kernel_rfl) (by kernel_rfl) (by kernel_rfl) (fun _ _ _ h => h) (Or.inl ⟨by rfl, fun w hSw => by have r1 := HQ1.out w hSw; go_simp⟩) hS ?_
   simp only [Act.put, List.getElem_toArray, List.getElem_cons_succ, List.getElem_cons_zero, List.setIfInBounds_toArray, List.set_cons_zero, List.set_cons_succ]
   refine wpAnyH_take (i := 8) (v := linV b) rfl (by kernel_rfl) (by kernel_rfl) (by kernel_rfl) (fun _ _ _ h => h) (Or.inl ⟨by rfl, fun w hSw => by go_simp⟩) hS ?_
   simp only [Act.put, List.getElem_toArray, List.getElem_cons_succ, List.getElem_cons_zero, List.setIfInBounds_toArray, List.set_cons_zero, List.set_cons_succ]
   refine wpAnyH_take (i := 9) (v := .slice (some ⟨b1, o1, none⟩) l.length lc) rfl (by kernel_rfl) (by kernel_rfl) (by kernel_rfl) (fun _ _ _ h => h) (Or.inl ⟨by rfl, fun w hSw => by go_simp⟩) hS ?_
   simp only [Act.put, List.getElem_toArray, List.getElem_cons_succ, List.getElem_cons_zero, List.setIfInBounds_toArray, List.set_cons_zero, List.set_cons_succ]
   refine wpAnyH_take (i := 10) (v := .int .i64 (i : Int)) rfl (by kernel_rfl) (by kernel_rfl) (by kernel_rfl) (fun _ _ _ h => h) (Or.inl ⟨by rfl, fun w hSw => by go_simp⟩) hS ?_
   simp only [Act.put, List.getElem_toArray, List.getElem_cons_succ, List.getElem_cons_zero, List.setIfInBounds_toArray, List.set_cons_zero, List.set_cons_succ]
   refine wpAnyH_take (i := 11) (v := .int .i64 (i : Int)) rfl (by kernel_rfl) (by kernel_rfl) (by kernel_rfl) (fun _ _ _ h => h) (Or.inl ⟨by rfl, fun w hSw => by go_simp⟩) hS ?_
   simp only [Act.put, List.getElem_toArray, List.getElem_cons_succ, List.getElem_cons_zero, List.setIfInBounds_toArray, List.set_cons_zero, List.set_cons_succ]
   refine wpAnyH_take (i := 12) (v := .int .i64 (q : Int)) rfl (by kernel_rfl) (by kernel_rfl) (by kernel_rfl) (fun _ _ _ h => h) (Or.inl ⟨by rfl, fun w hSw => by go_simp⟩) hS ?_
   simp only [Act.put, List.getElem_toArray, List.getElem_cons_succ, List.getElem_cons_zero, List.setIfInBounds_toArray, List.set_cons_zero, List.set_cons_succ]
   refine wpAnyH_take (i := 13) (v := .int .i64 (p : Int)) rfl (by kernel_rfl) (by kernel_rfl) (by kernel_rfl) (fun _ _ _ h => h) (Or.inl ⟨by rfl, fun w hSw => by go_simp⟩) hS ?_
   simp only [Act.put, List.getElem_toArray, List.getElem_cons_succ, List.getElem_cons_zero, List.setIfInBounds_toArray, List.set_cons_zero, List.set_cons_succ]
   refine wpAnyH_take (i := 14) (v := .slice (some ⟨b1, o1 + i, none⟩) q (lc - i)) rfl (by kernel_rfl) (by kernel_rfl) (by kernel_rfl) (fun _ _ _ h => h) (Or.inl ⟨by rfl, fun w hSw => by go_simp⟩) hS ?_
   simp only [Act.put, List.getElem_toArray, List.getElem_cons_succ, List.getElem_cons_zero, List.setIfInBounds_toArray, List.set_cons_zero, List.set_cons_succ]
   refine wpAnyH_ready (rs := [15]) (by kernel_rfl) (by simp) ?_
   refine AllReadyH.cons rfl (fun K hK => ?_) AllReadyH.nil
   go_simp
   refine (HK.out _ _ hS).mono ?_
   rintro e w5 ⟨rfl, hw5⟩
   subst hw5
   obtain ⟨⟨v5, y5⟩, z5⟩ := HCL.out _ HD
   refine hK.out _ _ hS (fun hS5 => ?_)
   clear hK K
   try simp only [Act.put, List.getElem_toArray, List.getElem_cons_succ, List.getElem_cons_zero, List.setIfInBounds_toArray, List.set_cons_zero, List.set_cons_succ]
   refine wpAnyH_take (i := 16) (v := .int .i64 (wrap64 (x - fo))) rfl (by kernel_rfl) (by kernel_rfl) (by kernel_rfl) (fun _ _ _ h => h) (Or.inl ⟨by rfl, fun w hSw => by go_simp; exact wrap_is _⟩) hS5 ?_
   simp only [Act.put, List.getElem_toArray, List.getElem_cons_succ, List.getElem_cons_zero, List.setIfInBounds_toArray, List.set_cons_zero, List.set_cons_succ]
   refine wpAnyH_take (i := 17) (v := .pointer (some ⟨w.heap.size, i, none⟩)) rfl (by kernel_rfl) (by kernel_rfl) (by kernel_rfl) (fun _ _ _ h => h) (Or.inl ⟨by rfl, fun w hSw => by go_simp⟩) hS5 ?_
   simp only [Act.put, List.getElem_toArray, List.getElem_cons_succ, List.getElem_cons_zero, List.setIfInBounds_toArray, List.set_cons_zero, List.set_cons_succ]
   refine wpAnyH_ready (rs := [18]) (by kernel_rfl) (by simp) ?_
   refine AllReadyH.cons rfl (fun K hK => ?_) AllReadyH.nil
   go_simp
   refine hK.out _ _ HNX.out.below (fun hS6 => ?_)
   clear hK K
   refine wpAnyH_done (by kernel_rfl) ?_ _
   go_wp2_with fail
   go_roundw
   case rel => exact ⟨i + 1, by omega, by go_num, HNX.out⟩
   case measure => simp [intOf]; omega
  ·have hin : i = n := by omega
   subst hin
   have HI : Hid (Made w (some ⟨w.heap.size, 0, none⟩) i L wr) := Made.of_fill (by rw [HLL.out]; exact HA.out) (by rw [HLL.out]; omega) (by rw [HLL.out]; omega) HRG.out
   clear HA
   go_wp2_with fail
   go_ret
   exact ⟨_, _, by rw [HLL.out]; rfl, HI.out⟩
theorem qfixed_spec (o : Int) (l : List Int) (la : Option Addr) (lc : Nat) (hlc : l.length ≤ lc) (w : World) (hl : IntsAt w la l) : Calls Tryz.prog 177 #[.int .i64 o, .slice la l.length lc] w (RetM (fixR o l) w) := by
 have h1 := hl.len
 by_cases h1 : o < 0
 ·have HR : Hid (fixR o l = none) := by show _ = _; unfold fixR; rw [if_neg (by omega)]
  go_enter Tryz.func177, Tryz.ntmps177
  go_wp2_with fail
  go_ret2
  exact retM_none HR.out rfl (Below.refl _ _)
 ·skip
  by_cases h2 : 4 < o
  ·have HR : Hid (fixR o l = none) := by show _ = _; unfold fixR; rw [if_neg (by omega)]
   go_enter Tryz.func177, Tryz.ntmps177
   go_wp2_with fail
   go_ret2
   exact retM_none HR.out rfl (Below.refl _ _)
  ·skip
   by_cases h3 : (l.length : Int) < o
   ·have HR : Hid (fixR o l = none) := by show _ = _; unfold fixR; rw [if_neg (by omega)]
    go_enter Tryz.func177, Tryz.ntmps177
    go_wp2_with fail
    go_ret2
    exact retM_none HR.out rfl (Below.refl _ _)
   ·skip
    obtain ⟨o', rfl⟩ : ∃ o' : Nat, o = (o' : Int) := ⟨o.toNat, by omega⟩
    have ho4 : o' ≤ 4 := by omega
    have hol : o' ≤ l.length := by omega
    have HWL : Hid ((wF o').length = o') := wF_len o' ho4
    have HR : Hid (fixR (o' : Int) l = some (leftN (wF o') 0 l (l.length - o'))) := by
     show _ = _
     unfold fixR; rw [if_pos (by omega)]; rfl
    have kw := qcoefs_spec o' ho4 w
    have HL : Hid (IntsAt w la l) := hl
    clear hl
    go_enter Tryz.func177, Tryz.ntmps177
    go_wp2_with fail
    refine kw.mono ?_
    rintro e w2 ⟨ca, cc, rfl, hc, hb2⟩
    have km := qlinear_spec (wF o') ca cc 0 w2 hc
    rw [HWL.out] at km ⊢
    have HB2 : Hid (Below w.heap.size w w2) := hb2
    clear kw hb2 hc
    go_wp2_with fail
    refine km.mono ?_
    rintro e w3 ⟨b, rfl, hlin, hb3⟩
    have HB3 : Hid (Below w.heap.size w w3) := HB2.out.trans (hb3.mono HB2.out.size)
    have kl := qleft_spec (wF o') l ca la cc lc 0 b (by omega) (by rw [HWL.out]; exact hol) hlc w3 hlin (HL.out.below HB3.out)
    rw [HWL.out] at kl
    clear km hb3 hlin HB2
    generalize leftN (wF o') 0 l (l.length - o') = R at *
    go_wp2_with fail
    refine kl.mono ?_
    rintro e w4 ⟨ao, ac, rfl, hi4⟩
    have HI : Hid (Made w ao ac R w4) := hi4.up HB3.out
    clear hi4 kl
    go_wp2_with fail
    go_ret2
    exact retM_some HR.out rfl HI.out
theorem qlpc_spec (C l : List Int) (sh : Int) (ca la : Option Addr) (cc lc : Nat) (hlc : l.length ≤ lc) (w : World) (hC : IntsAt w ca C) (hl : IntsAt w la l) : Calls Tryz.prog 178 #[.slice ca C.length cc, .int .i64 sh, .slice la l.length lc] w (RetM (lpcR C sh l) w) := by
 have km := qmay_spec C sh ca cc w hC
 have h1 := hC.len
 have h2 := hl.len
 have HC : Hid (IntsAt w ca C) := hC
 have HL : Hid (IntsAt w la l) := hl
 clear hC hl
 cases hm : mayB C sh with
 | false =>
  have HR : Hid (lpcR C sh l = none) := by show _ = _; unfold lpcR; rw [hm, if_neg (fun h => by cases h.1)]
  rw [hm] at km
  clear hm
  go_enter Tryz.func178, Tryz.ntmps178
  go_wp2_with fail
  refine km.mono ?_
  rintro e w2 ⟨rfl, rfl⟩
  go_wp2_with fail
  go_ret2
  exact retM_none HR.out rfl (Below.refl _ _)
 | true =>
  obtain ⟨m1, m2, m3, m4⟩ := (mayB_iff C sh).1 hm
  obtain ⟨s', rfl⟩ : ∃ s' : Nat, sh = (s' : Int) := ⟨sh.toNat, by omega⟩
  have hs31 : s' ≤ 31 := by omega
  by_cases hk : C.length ≤ l.length
  ·have hk2 : (C.length : Int) ≤ (l.length : Int) := by omega
   have HR : Hid (lpcR C (s' : Int) l = some (leftN C s' l (l.length - C.length))) := by show _ = _; unfold lpcR; rw [hm, if_pos ⟨rfl, hk⟩]; rfl
   skip
   rw [hm] at km
   clear hm
   go_enter Tryz.func178, Tryz.ntmps178
   go_wp2_with fail
   refine km.mono ?_
   rintro e w2 ⟨rfl, rfl⟩
   have kn := qlinear_spec C ca cc s' w2 HC.out
   clear km
   go_wp2_with fail
   refine kn.mono ?_
   rintro e w3 ⟨b, rfl, hlin, hb3⟩
   have HB3 : Hid (Below w2.heap.size w2 w3) := hb3
   have kl := qleft_spec C l ca la cc lc s' b hs31 hk hlc w3 hlin (HL.out.below HB3.out)
   generalize leftN C s' l (l.length - C.length) = R at *
   clear kn hb3 hlin
   go_wp2_with fail
   refine kl.mono ?_
   rintro e w4 ⟨ao, ac, rfl, hi4⟩
   have HI : Hid (Made w2 ao ac R w4) := hi4.up HB3.out
   clear hi4 kl
   go_wp2_with fail
   go_ret2
   exact retM_some HR.out rfl HI.out
  ·have HR : Hid (lpcR C (s' : Int) l = none) := by show _ = _; unfold lpcR; rw [if_neg (fun h => hk h.2)]
   have hk2 : (l.length : Int) < (C.length : Int) := by omega
   rw [hm] at km
   clear hm
   go_enter Tryz.func178, Tryz.ntmps178
   go_wp2_with fail
   refine km.mono ?_
   rintro e w2 ⟨rfl, rfl⟩
   go_wp2_with fail
   go_ret2
   exact retM_none HR.out rfl (Below.refl _ _)
theorem tt_iff {P : Prop} (h : P) : (true = true ↔ P) := ⟨fun _ => h, fun _ => rfl⟩
theorem ff_iff {P : Prop} (h : ¬ P) : (false = true ↔ P) := Iff.intro (fun e => Bool.noConfusion e) (fun e => absurd e h)
theorem bb_no {bb : Bool} {P : Prop} (h : bb = true ↔ P) (hn : ¬ P) : bb = false := by
 cases bb with
 | false => rfl
 | true => exact absurd (h.1 rfl) hn
theorem bb_yes {bb : Bool} {P : Prop} (h : bb = true ↔ P) (hn : P) : bb = true := h.2 hn
structure SX (w : World) (q : Sb) (ca : Option Addr) (cc : Nat) (pa : Option Addr) (pc : Nat) (ea : Option Addr) (ec : Nat) (wx : World) : Prop where
 box : wx.heap[w.heap.size]? = some (.cells (subC q ca cc pa pc ea ec) 27 (0, 0))
 below : Below w.heap.size w wx
section
variable {w wx w' : World} {q : Sb} {ca : Option Addr} {cc : Nat} {pa : Option Addr} {pc : Nat} {ea : Option Addr} {ec : Nat}
theorem SX.new (w : World) (q : Sb) (ca : Option Addr) (cc : Nat) (pa : Option Addr) (pc : Nat) (ea : Option Addr) (ec : Nat) : SX w q ca cc pa pc ea ec (w.alloc (.cells (subC q ca cc pa pc ea ec) 27)) :=
 ⟨heap_alloc_new _ _, (Below.refl _ _).alloc (Nat.le_refl _) _⟩
theorem SX.next (h : SX w q ca cc pa pc ea ec wx) (hb : Below wx.heap.size wx w') : SX w q ca cc pa pc ea ec w' :=
 ⟨by rw [hb.block _ (lt_of_block h.box)]; exact h.box, h.below.trans (hb.mono h.below.size)⟩
end
theorem fit_sign (x : Int) (k : Nat) : (-2 ^ k ≤ x ∧ x < 2 ^ k) ↔ (x / 2 ^ k = 0 ∨ x / 2 ^ k = -1) := by
 have hq : (0 : Int) < 2 ^ k := Int.pow_pos (by decide)
 have h1 := Int.emod_add_mul_ediv x (2 ^ k)
 have h2 := Int.emod_nonneg x (Int.ne_of_gt hq)
 have h3 := Int.emod_lt_of_pos x hq
 generalize (2 : Int) ^ k = m at *
 generalize x % m = r at *
 generalize hy : x / m = y at *
 constructor
 ·rintro ⟨a, b⟩
  rcases Int.lt_or_le y (-1) with c | c
  ·have := Int.mul_le_mul_of_nonneg_left (show y ≤ -2 by omega) (Int.le_of_lt hq)
   omega
  ·rcases Int.lt_or_le 0 y with d | d
   ·have := Int.mul_le_mul_of_nonneg_left (show 1 ≤ y by omega) (Int.le_of_lt hq)
    omega
   ·omega
 ·rintro (c | c)
  ·rw [c, Int.mul_zero] at h1; omega
  ·rw [c, Int.mul_neg, Int.mul_one] at h1; omega
theorem div_rng (x : Int) (k : Nat) (h : -9223372036854775808 ≤ x ∧ x ≤ 9223372036854775807) : -9223372036854775808 ≤ x / 2 ^ k ∧ x / 2 ^ k ≤ 9223372036854775807 := by
 have hq : (0 : Int) < 2 ^ k := Int.pow_pos (by decide)
 have h1 := Int.ediv_mul_le x (Int.ne_of_gt hq)
 have h2 := Int.lt_ediv_add_one_mul_self x hq
 have hq1 : (1 : Int) ≤ 2 ^ k := hq
 generalize (2 : Int) ^ k = m at *
 generalize x / m = y at *
 constructor
 ·rcases Int.lt_or_le y (-9223372036854775808) with c | c
  ·have := Int.mul_le_mul_of_nonneg_right (show y + 1 ≤ -9223372036854775808 by omega) (Int.le_of_lt hq)
   omega
  ·exact c
 ·rcases Int.lt_or_le 9223372036854775807 y with c | c
  ·have := Int.mul_le_mul_of_nonneg_right (show 9223372036854775808 ≤ y by omega) (Int.le_of_lt hq)
   omega
  ·exact c
theorem sigE_sign (x : Int) (k : Nat) (hk : k ≤ 63) : sigE x ((k : Int) + 1) = 0 ↔ (x / 2 ^ k = 0 ∨ x / 2 ^ k = -1) := by
 rw [sigE_iff, ← fit_sign, show ((k : Int) + 1).toNat - 1 = k by omega]
 constructor
 ·rintro ⟨_, _, a, b⟩; exact ⟨a, b⟩
 ·rintro ⟨a, b⟩; exact ⟨by omega, by omega, a, b⟩
theorem s_areOf (b v : Int) (bb : Bool) (hbb : bb = true ↔ (1 ≤ b ∧ b ≤ 65535) ∧ (1 ≤ v ∧ v ≤ 33)) (w : World) : Calls Tryz.prog 127 #[.int .i64 b, .int .i64 v] w fun e w' => e = .returned (.bool bb) ∧ w' = w := by
 by_cases g0 : b < 1
 ·rw [bb_no hbb (by omega)]
  clear hbb
  go_enter Tryz.func127, Tryz.ntmps127
  go_wp2_with fail
  go_ret
  exact ⟨rfl, rfl⟩
 ·skip
  by_cases g1 : 65535 < b
  ·rw [bb_no hbb (by omega)]
   clear hbb
   go_enter Tryz.func127, Tryz.ntmps127
   go_wp2_with fail
   go_ret
   exact ⟨rfl, rfl⟩
  ·skip
   by_cases g2 : v < 1
   ·rw [bb_no hbb (by omega)]
    clear hbb
    go_enter Tryz.func127, Tryz.ntmps127
    go_wp2_with fail
    go_ret
    exact ⟨rfl, rfl⟩
   ·skip
    by_cases g3 : 33 < v
    ·rw [bb_no hbb (by omega)]
     clear hbb
     have hb : decide (v ≤ 33) = false := decide_eq_false (by omega)
     go_enter Tryz.func127, Tryz.ntmps127
     go_wp2_with fail
     go_ret
     exact ⟨rfl, rfl⟩
    ·skip
     rw [bb_yes hbb (by omega)]
     clear hbb
     have hb : decide (v ≤ 33) = true := decide_eq_true (by omega)
     go_enter Tryz.func127, Tryz.ntmps127
     go_wp2_with fail
     go_ret
     exact ⟨rfl, rfl⟩
theorem s_within (l : List Int) (la : Option Addr) (lc : Nat) (k : Nat) (hk : k ≤ 63) (bb : Bool) (hbb : bb = true ↔ ∀ x ∈ l, sigE x ((k : Int) + 1) = 0) (w : World) (hl : IntsAt w la l) : Calls Tryz.prog 129 #[.slice la l.length lc, .int .i64 ((k : Int) + 1)] w fun e w' => e = .returned (.bool bb) ∧ w' = w := by
 have HL : Hid (IntsAt w la l) := hl
 have h1 := hl.len
 have HBB : Hid (bb = true ↔ ∀ x ∈ l, sigE x ((k : Int) + 1) = 0) := hbb
 clear hbb hl
 go_enter Tryz.func129, Tryz.ntmps129
 go_wp2_with fail
 go_loopw [6, 7, 10] (fun s6 s7 t wr => ∃ i : Nat, i ≤ l.length ∧ t = .int .i64 (i : Int) ∧ (∀ j, j < i → sigE (l.getD j 0) ((k : Int) + 1) = 0) ∧ wr = w) (fun _ _ t _ => l.length - (intOf t).toNat)
 case atStart => exact ⟨0, Nat.zero_le _, rfl, fun j hj => absurd hj (Nat.not_lt_zero _), rfl⟩
 case round =>
  obtain ⟨i, hi, rfl, hs, rfl⟩ := hrel
  have HS : Hid (∀ j, j < i → sigE (l.getD j 0) ((k : Int) + 1) = 0) := hs
  clear hs
  by_cases hlt : i < l.length
  ·obtain ⟨b1, o1, rfl, q1⟩ := HL.out.at i hlt
   have r1 := q1 wr (Below.refl _ _)
   have hsg := sigE_sign (l.getD i 0) k hk
   have hrg := HL.out.rng i
   have HM : Hid (l.getD i 0 ∈ l) := by
    show _ ∈ _
    rw [List.getD_eq_getElem?_getD, List.getElem?_eq_getElem hlt]; exact List.getElem_mem hlt
   have hdr : -9223372036854775808 ≤ l.getD i 0 / 2 ^ k ∧ l.getD i 0 / 2 ^ k ≤ 9223372036854775807 := div_rng _ k hrg
   have HSG : Hid (sigE (l.getD i 0) ((k : Int) + 1) = 0 ↔ (l.getD i 0 / 2 ^ k = 0 ∨ l.getD i 0 / 2 ^ k = -1)) := hsg
   have HE : Hid (∀ j, j = i → l.getD j 0 = l.getD i 0) := fun j hj => by rw [hj]
   clear q1 hsg
   generalize l.getD i 0 = x at *
   by_cases c0 : x / 2 ^ k = 0
   ·have hb0 : (x / 2 ^ k != 0) = false := by rw [bne_eq_false_iff_eq]; exact c0
    have HX : Hid (sigE x ((k : Int) + 1) = 0) := HSG.out.2 (.inl c0)
    clear HSG c0 HM
    go_wp2_with fail
    go_roundw
    case rel =>
     refine ⟨i + 1, by omega, by go_num, fun j hj => ?_, trivial⟩
     by_cases e : j = i
     ·rw [HE.out j e]; exact HX.out
     ·exact HS.out j (by omega)
    case measure => simp [intOf]; omega
   ·by_cases c1 : x / 2 ^ k = -1
    ·have hb0 : (x / 2 ^ k != 0) = true := by rw [bne_iff_ne]; exact c0
     have hb1 : (x / 2 ^ k != -1) = false := by rw [bne_eq_false_iff_eq]; exact c1
     have HX : Hid (sigE x ((k : Int) + 1) = 0) := HSG.out.2 (.inr c1)
     clear HSG c0 c1 HM
     go_wp2_with fail
     go_roundw
     case rel =>
      refine ⟨i + 1, by omega, by go_num, fun j hj => ?_, trivial⟩
      by_cases e : j = i
      ·rw [HE.out j e]; exact HX.out
      ·exact HS.out j (by omega)
     case measure => simp [intOf]; omega
    ·have hb0 : (x / 2 ^ k != 0) = true := by rw [bne_iff_ne]; exact c0
     have hb1 : (x / 2 ^ k != -1) = true := by rw [bne_iff_ne]; exact c1
     have HF : Hid (bb = false) := bb_no HBB.out (fun h => by
      have := HSG.out.1 (h x HM.out)
      omega)
     clear HSG c0 c1 HM
     go_wp2_with fail
     go_ret
     exact ⟨by rw [HF.out]; rfl, rfl⟩
  ·have HF : Hid (bb = true) := bb_yes HBB.out (fun x hx => by
    obtain ⟨j, hj, rfl⟩ := List.mem_iff_getElem.1 hx
    have := HS.out j (by omega)
    rw [List.getD_eq_getElem?_getD, List.getElem?_eq_getElem hj] at this
    exact this)
   go_wp2_with fail
   go_ret
   exact ⟨by rw [HF.out]; rfl, rfl⟩
theorem info_prices : (Tryz.prog.info? 239).map (·.size) = some 15 := by kernel_rfl
def pxA (f : Nat → Int) : Array Value := ((List.range 15).map fun k => Value.int .i64 (f k)).toArray
theorem pxA_size (f : Nat → Int) : (pxA f).size = 15 := by simp [pxA]
theorem pxA_get (f : Nat → Int) (j : Nat) (h : j < 15) : (pxA f)[j]? = some (.int .i64 (f j)) := by
 simp [pxA, List.getElem?_map, List.getElem?_range h]
theorem undPx : Tryz.prog.underlying 239 = some (.array 15 3) := by kernel_rfl
theorem run_index_px (A : Array Value) (hsz : A.size = 15) (v : Int) (j : Nat) (h : j < 15) (hv : A[j]? = some (.int .i64 v)) (w : World) : (Instr.index 239 (.agg A) (.int .i64 (j : Int))).run Tryz.prog w = .ok (.int .i64 v) w := by
 have hn : 0 ≤ (j : Int) ∧ (j : Int) < ((15 : Nat) : Int) := by omega
 simp [Instr.index, run_underlying undPx, asIntOf, hn, go_sem, size3, h]
 rw [hv]
 rfl
theorem exp15 (A : Array Value) (h : A.size = 15) : (#[A[0]'(by omega), A[1]'(by omega), A[2]'(by omega), A[3]'(by omega), A[4]'(by omega), A[5]'(by omega), A[6]'(by omega), A[7]'(by omega), A[8]'(by omega), A[9]'(by omega), A[10]'(by omega), A[11]'(by omega), A[12]'(by omega), A[13]'(by omega), A[14]'(by omega)] : Array Value) = A := by
 apply Array.ext
 ·exact h.symm
 ·intro i h1 h2
  have : i = 0 ∨ i = 1 ∨ i = 2 ∨ i = 3 ∨ i = 4 ∨ i = 5 ∨ i = 6 ∨ i = 7 ∨ i = 8 ∨ i = 9 ∨ i = 10 ∨ i = 11 ∨ i = 12 ∨ i = 13 ∨ i = 14 := by omega
  rcases this with rfl | rfl | rfl | rfl | rfl | rfl | rfl | rfl | rfl | rfl | rfl | rfl | rfl | rfl | rfl <;> rfl
def bestK (f : Nat → Nat) : Nat → Nat
 | 0 => 0
 | n + 1 => if f (n + 1) < f (bestK f n) then n + 1 else bestK f n
theorem bestK_at (f : Nat → Nat) (n : Nat) : f (bestK f n) ≤ f n := by
 cases n with
 | zero => exact Nat.le_refl _
 | succ n => unfold bestK; split <;> omega
def pv (n : Nat) : Int := if n < 1000000000000000 then (n : Int) else -1
theorem pv_lt {n : Nat} (h : n < 1000000000000000) : pv n = (n : Int) := if_pos h
theorem pv_ge {n : Nat} (h : ¬ n < 1000000000000000) : pv n = -1 := if_neg h
def pl (a b : Nat) : Nat := if a < 1000000000000000 ∧ b < 1000000000000000 then a + b else 1000000000000000
theorem bestK_le (f : Nat → Nat) (n : Nat) : bestK f n ≤ n := by
 induction n with
 | zero => exact Nat.le_refl _
 | succ n ih => unfold bestK; split <;> omega
theorem least_spec (f : Nat → Nat) (hf : ∀ k, f k ≤ 1000000000000000) (w : World) :
  Calls Tryz.prog 225 #[.agg (pxA fun k => (pv (f k)))] w fun en w' => en = .returned (.int .i64 (bestK f 14 : Int)) ∧ Below w.heap.size w w' := by
 have hsz := pxA_size (fun k => (pv (f k)))
 have hget := pxA_get (fun k => (pv (f k)))
 generalize pxA (fun k => (pv (f k))) = A at *
 have hbx : (w.alloc (.cells A 239)).heap[w.heap.size]? = some (.cells A 239 (0, 0)) := heap_alloc_new _ _
 have hld := run_loadVar_row (P := Tryz.prog) (w.alloc (.cells A 239)) w.heap.size 239 239 A (0, 0) _ hbx Tryz.underlying239 rfl (by rw [hsz]; exact info_prices)
 go_enter Tryz.func225, Tryz.ntmps225
 go_wp2_with fail
 rw [exp15 A hsz]
 have HBX : Hid ((w.alloc (.cells A 239)).heap[w.heap.size]? = some (.cells A 239 (0, 0))) := hbx
 have HBL : Hid (Below w.heap.size w (w.alloc (.cells A 239))) := (Below.refl _ _).alloc (Nat.le_refl _) _
 clear hbx hld
 generalize hwa : w.alloc _ = wa at *
 clear hwa
 go_loopw [3, 4, 5, 7] (fun s3 s4 s5 s7 wr => ∃ j : Nat, j ≤ 15 ∧ s7 = .int .i64 (j : Int) ∧ s3 = .int .i64 ((bestK f (j - 1) : Nat) : Int) ∧ wr = wa) (fun _ _ _ s7 _ => 15 - (intOf s7).toNat)
 case atStart => exact ⟨0, by omega, rfl, rfl, rfl⟩
 case round =>
  obtain ⟨j, hj, rfl, rfl, rfl⟩ := hrel
  by_cases hlt : j < 15
  ·have hb := bestK_le f (j - 1)
   have hg := hget j hlt
   have hgb := hget (bestK f (j - 1)) (by omega)
   have hc : wr.cell? ⟨w.heap.size, bestK f (j - 1), none⟩ = some (.int .i64 (pv (f (bestK f (j - 1))))) := by rw [cell_of_row _ _ _ _ _ _ HBX.out]; exact hgb
   have HST : Hid (bestK f (j + 1 - 1) = if f j < f (bestK f (j - 1)) then j else bestK f (j - 1)) := by
    show _ = _
    cases j with
    | zero => simp [bestK]
    | succ j => rfl
   have h1 := hf j
   have h2 := hf (bestK f (j - 1))
   have hix := run_index_px A hsz (pv (f j)) j hlt hg
   clear hget hgb hf hg
   generalize bestK f (j - 1) = bk at *
   generalize hv1 : f j = v1 at *
   generalize hv2 : f bk = v2 at *
   by_cases hv : v1 < v2
   ·rw [if_pos hv] at HST
    have e1 := pv_lt (n := v1) (by omega)
    rw [e1] at hix
    have hb1 : ((v1 : Int) != -1) = true := by rw [bne_iff_ne]; omega
    by_cases hi : v2 < 1000000000000000
    ·have e2 := pv_lt hi
     rw [e2] at hc
     have hb2 : ((v2 : Int) == -1) = false := by rw [beq_eq_false_iff_ne]; omega
     clear e1 e2
     go_wp2_with fail
     go_roundw
     case rel => exact ⟨j + 1, by omega, by go_num, by rw [HST.out], by first | rfl | trivial⟩
     case measure => simp [intOf]; omega
    ·have e2 := pv_ge hi
     rw [e2] at hc
     clear e1 e2 hi hv h2
     go_wp2_with fail
     go_roundw
     case rel => exact ⟨j + 1, by omega, by go_num, by rw [HST.out], by first | rfl | trivial⟩
     case measure => simp [intOf]; omega
   ·rw [if_neg hv] at HST
    by_cases hi : v1 < 1000000000000000
    ·have e1 := pv_lt hi
     have e2 := pv_lt (n := v2) (by omega)
     rw [e1] at hix
     rw [e2] at hc
     have hb1 : ((v1 : Int) != -1) = true := by rw [bne_iff_ne]; omega
     have hb2 : ((v2 : Int) == -1) = false := by rw [beq_eq_false_iff_ne]; omega
     clear e1 e2
     go_wp2_with fail
     go_roundw
     case rel => exact ⟨j + 1, by omega, by go_num, by rw [HST.out], by first | rfl | trivial⟩
     case measure => simp [intOf]; omega
    ·have e1 := pv_ge hi
     rw [e1] at hix
     have hp : -1 ≤ pv v2 ∧ pv v2 ≤ 1000000000000000 := by unfold pv; split <;> omega
     generalize pv v2 = p2 at *
     clear e1 hi hv h1 h2
     go_wp2_with fail
     go_roundw
     case rel => exact ⟨j + 1, by omega, by go_num, by rw [HST.out], by first | rfl | trivial⟩
     case measure => simp [intOf]; omega
  ·have hj15 : j = 15 := by omega
   subst hj15
   go_wp2_with fail
   go_ret
   exact ⟨rfl, HBL.out⟩
theorem pxA_all (f : Nat → Int) : (pxA f).all (·.oneCell') = true := by
 simp [pxA, Value.oneCell']
theorem pxA_congr (f g : Nat → Int) (h : ∀ k, k < 15 → f k = g k) : pxA f = pxA g := by
 apply Array.ext_getElem?
 intro i
 by_cases hi : i < 15
 ·rw [pxA_get _ i hi, pxA_get _ i hi, h i hi]
 ·rw [Array.getElem?_eq_none (by rw [pxA_size]; omega), Array.getElem?_eq_none (by rw [pxA_size]; omega)]
theorem pxA_set (f : Nat → Int) (j : Nat) (v : Int) (h : j < 15) : (pxA f).setIfInBounds j (.int .i64 v) = pxA (fun k => if k = j then v else f k) := by
 apply Array.ext_getElem?
 intro i
 rw [Array.getElem?_setIfInBounds]
 by_cases hi : i < 15
 ·rw [pxA_get _ i hi, pxA_get _ i hi, pxA_size]
  by_cases e : j = i
  ·subst e; simp [h]
  ·have e' : ¬ i = j := fun x => e x.symm
   simp [e, e']
 ·have h1 : (pxA f)[i]? = none := Array.getElem?_eq_none (by rw [pxA_size]; omega)
  have h2 : (pxA (fun k => if k = j then v else f k))[i]? = none := Array.getElem?_eq_none (by rw [pxA_size]; omega)
  have e : ¬ j = i := by omega
  rw [h1, h2]; simp [e]
theorem heap_setRow_other (w : World) (g k : Nat) (B : Array Value) (h : k ≠ g) : (w.setRow g B).heap[k]? = w.heap[k]? := by
 have h' : ¬ g = k := fun e => h e.symm
 simp [World.setRow, Array.getElem?_modify, h']
theorem below_setRow {B : Nat} {a w : World} (h : Below B a w) (g : Nat) (C : Array Value) (hg : B ≤ g) : Below B a (w.setRow g C) :=
 ⟨h.os, h.tape, h.output, by have := h.size; simpa [World.setRow] using this, fun k hk => by rw [heap_setRow_other w g k C (by omega)]; exact h.block k hk⟩
theorem plus_spec (f g : Nat → Nat) (hf : ∀ k, f k ≤ 400000000000000 ∨ f k = 1000000000000000) (hg : ∀ k, g k ≤ 400000000000000 ∨ g k = 1000000000000000) (w : World) :
  Calls Tryz.prog 226 #[.agg (pxA fun k => (pv (f k))), .agg (pxA fun k => (pv (g k)))] w fun en w' => en = .returned (.agg (pxA fun k => pv (pl (f k) (g k)))) ∧ Below w.heap.size w w' := by
 have HSz : Hid (∀ h : Nat → Int, (pxA h).size = 15) := pxA_size
 have HB : Hid (Below w.heap.size w (((w.alloc (.cells (pxA fun k => (pv (f k))) 239)).alloc (.cells (pxA fun k => (pv (g k))) 239)).alloc (.cells #[.int .i64 0, .int .i64 0, .int .i64 0, .int .i64 0, .int .i64 0, .int .i64 0, .int .i64 0, .int .i64 0, .int .i64 0, .int .i64 0, .int .i64 0, .int .i64 0, .int .i64 0, .int .i64 0, .int .i64 0] 239))) := ((((Below.refl _ _).alloc (Nat.le_refl _) _).alloc (by simp) _).alloc (by simp; omega) _)
 have H3 : Hid ((((w.alloc (.cells (pxA fun k => (pv (f k))) 239)).alloc (.cells (pxA fun k => (pv (g k))) 239)).alloc (.cells #[.int .i64 0, .int .i64 0, .int .i64 0, .int .i64 0, .int .i64 0, .int .i64 0, .int .i64 0, .int .i64 0, .int .i64 0, .int .i64 0, .int .i64 0, .int .i64 0, .int .i64 0, .int .i64 0, .int .i64 0] 239)).heap[w.heap.size]? = some (.cells (pxA fun k => (pv (f k))) 239 (0, 0)) ∧ (((w.alloc (.cells (pxA fun k => (pv (f k))) 239)).alloc (.cells (pxA fun k => (pv (g k))) 239)).alloc (.cells #[.int .i64 0, .int .i64 0, .int .i64 0, .int .i64 0, .int .i64 0, .int .i64 0, .int .i64 0, .int .i64 0, .int .i64 0, .int .i64 0, .int .i64 0, .int .i64 0, .int .i64 0, .int .i64 0, .int .i64 0] 239)).heap[w.heap.size + 1]? = some (.cells (pxA fun k => (pv (g k))) 239 (0, 0)) ∧ (((w.alloc (.cells (pxA fun k => (pv (f k))) 239)).alloc (.cells (pxA fun k => (pv (g k))) 239)).alloc (.cells #[.int .i64 0, .int .i64 0, .int .i64 0, .int .i64 0, .int .i64 0, .int .i64 0, .int .i64 0, .int .i64 0, .int .i64 0, .int .i64 0, .int .i64 0, .int .i64 0, .int .i64 0, .int .i64 0, .int .i64 0] 239)).heap[w.heap.size + 2]? = some (.cells #[.int .i64 0, .int .i64 0, .int .i64 0, .int .i64 0, .int .i64 0, .int .i64 0, .int .i64 0, .int .i64 0, .int .i64 0, .int .i64 0, .int .i64 0, .int .i64 0, .int .i64 0, .int .i64 0, .int .i64 0] 239 (0, 0))) := heap_three _ _ _ _
 have e0 : (#[.int .i64 0, .int .i64 0, .int .i64 0, .int .i64 0, .int .i64 0, .int .i64 0, .int .i64 0, .int .i64 0, .int .i64 0, .int .i64 0, .int .i64 0, .int .i64 0, .int .i64 0, .int .i64 0, .int .i64 0] : Array Value).size = 15 := rfl
 generalize hzz : (#[.int .i64 0, .int .i64 0, .int .i64 0, .int .i64 0, .int .i64 0, .int .i64 0, .int .i64 0, .int .i64 0, .int .i64 0, .int .i64 0, .int .i64 0, .int .i64 0, .int .i64 0, .int .i64 0, .int .i64 0] : Array Value) = Z at *
 go_enter Tryz.func226, Tryz.ntmps226
 go_wp2_with fail
 generalize hwa : World.alloc _ _ = wa at *
 clear hwa hzz
 go_loopw [5, 6] (fun s5 s6 wr => ∃ j : Nat, j ≤ 15 ∧ s6 = .int .i64 (j : Int) ∧ wr.heap[w.heap.size]? = some (.cells (pxA fun k => pv (if k < j then pl (f k) (g k) else f k)) 239 (0, 0)) ∧ wr.heap[w.heap.size + 1]? = some (.cells (pxA fun k => (pv (g k))) 239 (0, 0)) ∧ wr.heap[w.heap.size + 2]? = some (.cells Z 239 (0, 0)) ∧ Below w.heap.size w wr) (fun _ s6 _ => 15 - (intOf s6).toNat)
 case atStart => exact ⟨0, by omega, rfl, by simpa using H3.out.1, H3.out.2.1, H3.out.2.2, HB.out⟩
 case round =>
  clear H3 HB
  obtain ⟨j, hj, rfl, h1, h2, h3, h4⟩ := hrel
  have HH : Hid (wr.heap[w.heap.size]? = some (.cells (pxA fun k => pv (if k < j then pl (f k) (g k) else f k)) 239 (0, 0)) ∧ wr.heap[w.heap.size + 1]? = some (.cells (pxA fun k => (pv (g k))) 239 (0, 0)) ∧ wr.heap[w.heap.size + 2]? = some (.cells Z 239 (0, 0)) ∧ Below w.heap.size w wr) := ⟨h1, h2, h3, h4⟩
  by_cases hlt : j < 15
  ·have c1 : wr.cell? ⟨w.heap.size, j, none⟩ = some (.int .i64 (pv (f j))) := by
    rw [cell_of_row _ _ _ _ _ _ h1, pxA_get _ j hlt, if_neg (by omega)]
   have c2 : wr.cell? ⟨w.heap.size + 1, j, none⟩ = some (.int .i64 (pv (g j))) := by
    rw [cell_of_row _ _ _ _ _ _ h2, pxA_get _ j hlt]
   have z1 : wr.frozen? ⟨w.heap.size, j, none⟩ = false := by simp [World.frozen?, h1]
   have b1 := hf j
   have b2 := hg j
   have HV : Hid (∀ k, (if k = j then pv (pl (f j) (g j)) else pv (if k < j then pl (f k) (g k) else f k)) = pv (if k < j + 1 then pl (f k) (g k) else f k)) := fun k => by
    by_cases e : k = j
    ·subst e; simp
    ·by_cases e2 : k < j
     ·rw [if_neg e, if_pos e2, if_pos (by omega)]
     ·rw [if_neg e, if_neg e2, if_neg (by omega)]
   clear h1 h2 h3 h4 hf hg
   by_cases hfi : f j < 1000000000000000 ∧ g j < 1000000000000000
   ·have e1 := pv_lt hfi.1
    have e2 := pv_lt hfi.2
    have ep : pv (pl (f j) (g j)) = (f j : Int) + (g j : Int) := by unfold pl; rw [if_pos hfi, pv_lt (by omega)]; push_cast; rfl
    rw [e1] at c1
    rw [e2] at c2
    have q1 : ((f j : Int) == -1) = false := by rw [beq_eq_false_iff_ne]; omega
    have q2 : ((g j : Int) == -1) = false := by rw [beq_eq_false_iff_ne]; omega
    have b3 : (f j : Int) + (g j : Int) ≤ 800000000000000 ∧ 0 ≤ (f j : Int) ∧ 0 ≤ (g j : Int) := by omega
    rw [ep] at HV
    have hsum : (f j : Int) + (g j : Int) = (f j : Int) + (g j : Int) := rfl
    clear e1 e2 ep hfi b1 b2
    generalize hfj : (f j : Int) + (g j : Int) = sv at *
    generalize (f j : Int) = v1 at *
    generalize (g j : Int) = v2 at *
    go_wp2_with fail
    go_region
    go_wp2_with fail
    go_roundw
    case rel =>
     refine ⟨j + 1, by omega, by go_num, ?_, ?_, ?_, ?_⟩
     ·have hh := block_setCell wr w.heap.size j _ 239 (.int .i64 sv) HH.out.1
      rw [pxA_set _ j _ hlt] at hh
      have hfe : (fun k => if k = j then sv else pv (if k < j then pl (f k) (g k) else f k)) = (fun k => pv (if k < j + 1 then pl (f k) (g k) else f k)) := funext (fun k => HV.out k)
      rw [hfe] at hh
      exact hh
     ·exact block_set2 _ _ _ _ _ _ _ HH.out.2.1 (by omega)
     ·exact block_set2 _ _ _ _ _ _ _ HH.out.2.2.1 (by omega)
     ·exact (HH.out.2.2.2.setCell (Nat.le_refl _) _).drew
    case measure => simp [intOf]; omega
   ·have ep : pv (pl (f j) (g j)) = -1 := by unfold pl; rw [if_neg hfi]; rfl
    rw [ep] at HV
    obtain ⟨sv, hsv⟩ : ∃ sv : Int, sv = -1 := ⟨_, rfl⟩
    rw [← hsv] at HV
    clear ep
    by_cases hfj : f j < 1000000000000000
    ·have e1 := pv_lt hfj
     have e2 := pv_ge (n := g j) (fun h => hfi ⟨hfj, h⟩)
     rw [e1] at c1
     rw [e2] at c2
     have q1 : ((f j : Int) == -1) = false := by rw [beq_eq_false_iff_ne]; omega
     have b3 : (f j : Int) ≤ 800000000000000 ∧ 0 ≤ (f j : Int) := by omega
     clear e1 e2 hfi hfj b1 b2
     generalize (f j : Int) = v1 at *
     go_wp2_with fail
     go_roundw
     case rel =>
      refine ⟨j + 1, by omega, by go_num, ?_, ?_, ?_, ?_⟩
      ·have hh := block_setCell wr w.heap.size j _ 239 (.int .i64 sv) HH.out.1
       rw [pxA_set _ j _ hlt] at hh
       have hfe : (fun k => if k = j then sv else pv (if k < j then pl (f k) (g k) else f k)) = (fun k => pv (if k < j + 1 then pl (f k) (g k) else f k)) := funext (fun k => HV.out k)
       rw [hfe] at hh
       rw [hsv] at hh; exact hh
      ·exact block_set2 _ _ _ _ _ _ _ HH.out.2.1 (by omega)
      ·exact block_set2 _ _ _ _ _ _ _ HH.out.2.2.1 (by omega)
      ·exact HH.out.2.2.2.setCell (Nat.le_refl _) _
     case measure => simp [intOf]; omega
    ·have e1 := pv_ge hfj
     rw [e1] at c1
     have hp : -1 ≤ pv (g j) ∧ pv (g j) ≤ 1000000000000000 := by unfold pv; split <;> omega
     clear e1 hfi hfj b1 b2
     generalize pv (g j) = v2 at *
     go_wp2_with fail
     go_roundw
     case rel =>
      refine ⟨j + 1, by omega, by go_num, ?_, ?_, ?_, ?_⟩
      ·have hh := block_setCell wr w.heap.size j _ 239 (.int .i64 sv) HH.out.1
       rw [pxA_set _ j _ hlt] at hh
       have hfe : (fun k => if k = j then sv else pv (if k < j then pl (f k) (g k) else f k)) = (fun k => pv (if k < j + 1 then pl (f k) (g k) else f k)) := funext (fun k => HV.out k)
       rw [hfe] at hh
       rw [hsv] at hh; exact hh
      ·exact block_set2 _ _ _ _ _ _ _ HH.out.2.1 (by omega)
      ·exact block_set2 _ _ _ _ _ _ _ HH.out.2.2.1 (by omega)
      ·exact HH.out.2.2.2.setCell (Nat.le_refl _) _
     case measure => simp [intOf]; omega
  ·have hj15 : j = 15 := by omega
   subst hj15
   have eA : (pxA fun k => pv (if k < 15 then pl (f k) (g k) else f k)) = pxA fun k => pv (pl (f k) (g k)) := pxA_congr _ _ (fun k hk => by rw [if_pos hk])
   rw [eA] at h1 HH
   have hRs : (pxA fun k => pv (pl (f k) (g k))).size = 15 := pxA_size _
   have hRa : (pxA fun k => pv (pl (f k) (g k))).all (·.oneCell') = true := pxA_all _
   clear h1 h2 h3 h4 eA
   generalize hR : pxA (fun k => pv (pl (f k) (g k))) = R at *
   have HR : Hid (pxA (fun k => pv (pl (f k) (g k))) = R) := hR
   clear hR
   go_wp2_with (first
    | (refine wpList_load_row rfl 239 _ rfl w.heap.size rfl 239 R (0, 0) _ HH.out.1 Tryz.underlying239 rfl (by rw [hRs]; exact info_prices) ?_)
    | (refine wpList_store_row rfl 239 _ _ rfl (w.heap.size + 2) R rfl rfl 239 Z HH.out.2.2.1 (by rw [hRs]; exact info_prices) (by rw [e0, hRs]) hRa ?_))
   refine bodyPost_ret (v := .agg R) ?_ rfl ⟨by rw [← HR.out], below_setRow HH.out.2.2.2 _ _ (by omega)⟩
   exact results_cell_row rfl _ _ (w.heap.size + 2) 239 R (0, 0) _ rfl (setRow_heap wr (w.heap.size + 2) Z R 239 _ HH.out.2.2.1) Tryz.underlying239 rfl (by rw [hRs]; exact info_prices)
end Go.Proofs.YthgpleelpeacjaaGreatDoor
