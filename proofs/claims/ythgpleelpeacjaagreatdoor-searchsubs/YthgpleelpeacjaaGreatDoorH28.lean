/- Own text. -/
import Derived.Test.YthgpleelpeacjaaGreatDoorH27
set_option linter.unusedSimpArgs false
set_option linter.unusedVariables false
set_option maxRecDepth 20000
set_option maxHeartbeats 12800000
namespace Go.Proofs.YthgpleelpeacjaaGreatDoor
open Go.RowKit
theorem st4_o {wx : World} (n : Nat) (v6 v7 v8 v9 : Value) : Stays (only n) wx ((((wx.setCell ⟨n, 6, none⟩ v6).setCell ⟨n, 7, none⟩ v7).setCell ⟨n, 8, none⟩ v8).setCell ⟨n, 9, none⟩ v9) :=
 ((((Stays.refl (only n) wx).setCell ⟨n, 6, none⟩ v6 (Or.inl rfl)).setCell ⟨n, 7, none⟩ v7 (Or.inl rfl)).setCell ⟨n, 8, none⟩ v8 (Or.inl rfl)).setCell ⟨n, 9, none⟩ v9 (Or.inl rfl)
theorem kQ12 {p : Prop} (h : p) : Hid p := h
theorem up_none (kb : Nat) (l : List Int) : UpK kb none l := fun _ b hb => by cases hb
theorem xsub12 (l : List Int) (lo : Option Addr) (lc : Nat) (v lv : Int) (hlv : 0 ≤ lv ∧ lv ≤ 2) (hv : 1 ≤ v ∧ v ≤ 33) (hn1 : 1 ≤ l.length) (hn2 : l.length ≤ 65535) (hfit : ∀ x ∈ l, sigE x v = 0) (w : World) (hl : IntsAt w lo l) : Calls Tryz.prog 9 #[.slice lo l.length lc, .int .i64 v, .int .i64 lv] w fun e w' => ∃ q n ca cc pa pc ea ec, sbR lv v l = some (q, n) ∧ e = .returned (.tuple #[subV q ca cc pa pc ea ec, .int .i64 ((n : Nat) : Int)]) ∧ SbAt w' q ca pa ea ∧ Below w.heap.size w w' := by
 have hln := hl.len
 have HL : Hid (IntsAt w lo l) := hl
 have HFI : Hid (∀ i, i < l.length → ∀ wx, Calls Tryz.prog 29 #[.int .i64 (l.getD i 0), .int .i64 v] wx fun e w' => e = .returned (.bool true) ∧ w' = wx) := fun i hi wx => by
  have hx := getD_mem l i hi
  have hn := hl.num _ hx
  have e : ((v.toNat : Nat) : Int) = v := by omega
  have k := fits_in (l.getD i 0) hn.1 hn.2 v.toNat (by omega) (by omega) wx
  rw [e] at k
  refine k.mono fun en w' hh => ⟨by rw [hh.1]; congr 2; exact decide_eq_true ((sigE_iff _ _).1 (hfit _ hx)).2.2, hh.2⟩
 have KW : Hid (∀ wx, Below w.heap.size w wx → Calls Tryz.prog 30 #[.slice lo l.length lc] wx fun e w' => e = .returned (.int .i64 (wasN l : Int)) ∧ w' = wx) := fun wx hb => xwasted_spec l lo lc wx (hl.below hb)
 have KS : Hid (∀ wx, Below w.heap.size w wx → Calls Tryz.prog 31 #[.slice lo l.length lc, .int .i64 (wasN l : Int)] wx fun e w' => ∃ la lb, e = .returned (.tuple #[.slice la (shrL l (wasN l)).length lb, .int .i64 0]) ∧ IntsAt w' la (shrL l (wasN l)) ∧ Below wx.heap.size wx w') := fun wx hb => by
  have k := xshift_spec l (wasN l : Int) lo lc wx (hl.below hb)
  have e : shfR l (wasN l : Int) = some (shrL l (wasN l)) := by
   unfold shfR
   have := wasN_le l
   rw [Int.toNat_natCast, if_pos ⟨by omega, wasN_dvB l⟩]
  rw [e] at k
  exact k
 have KT : Hid (∀ wx, Calls Tryz.prog 32 #[.int .i64 lv, .int .i64 (wasN l : Int)] wx fun e w' => ∃ so cap L, e = .returned (.slice so L.length cap) ∧ TS wx (.slice so L.length cap) L w' ∧ L.map (·.q) = trL lv (wasN l : Int)) := fun wx => by
  have h31 := wasN_le l
  rcases (show lv = 0 ∨ lv = 1 ∨ lv = 2 by omega) with h | h | h
  ·exact xtries0 lv (wasN l : Int) (by omega) h wx
  ·exact xtries1 lv (wasN l : Int) (by omega) h wx
  ·exact xtries2 lv (wasN l : Int) (by omega) h wx
 have HW31 : Hid (wasN l ≤ 31) := wasN_le l
 have HWV : Hid ((wasN l : Int) < v) := was_lt l v hv.1 hfit
 have HML : Hid ((shrL l (wasN l)).length = l.length) := by show _ = _; unfold shrL; rw [List.length_map]
 have HMS : Hid (∀ j, -4294967296 ≤ (shrL l (wasN l)).getD j 0 ∧ (shrL l (wasN l)).getD j 0 ≤ 4294967296) := shr_small l v hv.1 hv.2 hfit
 have HFT : Hid (∀ x ∈ l, sigE x v = 0) := hfit
 have HSB : Hid (sbR lv v l = (cnL lv (wasN l : Int)).foldl (stS v l (shrL l (wasN l))) none) := rfl
 have HDV : Hid (dvB l (wasN l) = true) := wasN_dvB l
 have HTO : Hid (∀ q, triedS (wasN l : Int) q → q.o ≤ (l.length : Int) → subOk (wiS q (shrL l (wasN l))) l.length v ∧ (vaB q l = true ↔ goesOk (wiS q (shrL l (wasN l))) v l)) := fun q ht ho => ⟨tried_sub l v q ht ho hv hn1 hn2 hfit, tried_goes l v q ht ho hv hn1 hn2 hfit⟩
 have HTE : Hid (∀ q, triedS (wasN l : Int) q → q.k = 2 ∨ q.k = 3 → ShY (resN q (shrL l (wasN l))) ∧ (resN q (shrL l (wasN l))).length = (shrL l (wasN l)).length - q.o.toNat) := fun q ht hk => tried_res _ q ht hk (shrL l (wasN l)) (shr_small l v hv.1 hv.2 hfit) (by rw [shrL_ln]; exact hn2)
 have HB0 : Hid (Below w.heap.size w (w.alloc (.cells (subC ⟨0, 0, 0, 0, 0, [], R00⟩ none 0 none 0 none 0) 27))) := (Below.refl _ _).alloc (Nat.le_refl _) _
 have HR0 : Hid ((w.alloc (.cells (subC ⟨0, 0, 0, 0, 0, [], R00⟩ none 0 none 0 none 0) 27)).heap[w.heap.size]? = some (.cells (subC ⟨0, 0, 0, 0, 0, [], R00⟩ none 0 none 0 none 0) 27 (0, 0))) := heap_alloc_new _ _
 clear hfit hl
 go_enter Tryz.func9, Tryz.ntmps9
 go_wp2_with fail
 generalize hwa : World.alloc _ _ = wa at *
 clear hwa
 go_loopw [8] (fun s8 wr => ∃ i : Nat, i ≤ l.length ∧ s8 = .int .i64 (i : Int) ∧ wr = wa) (fun s8 _ => l.length - (intOf s8).toNat)
 case atStart => exact ⟨0, Nat.zero_le _, rfl, rfl⟩
 case round =>
  obtain ⟨i, hi, rfl, hwr⟩ := hrel
  subst hwr
  by_cases hlt : i < l.length
  ·obtain ⟨b1, o1, hlo, q1⟩ := HL.out.at i hlt
   have r1 := q1 wr HB0.out
   have kf := HFI.out i hlt wr
   clear q1
   subst hlo
   generalize l.getD i 0 = x at *
   go_wp2_with fail
   refine kf.mono ?_
   rintro e w4 ⟨rfl, rfl⟩
   go_wp2_with fail
   go_roundw
   case rel => exact ⟨i + 1, by omega, by go_num, by first | rfl | trivial⟩
   case measure => simp [intOf]; omega
  ·have hil : i = l.length := by omega
   have HIL : Hid (i = l.length) := hil
   clear hil HFI
   generalize hmm : (shrL l (wasN l)) = m at *
   clear hmm
   generalize hws : (wasN l : Int) = wst at *
   have hw0 : 0 ≤ wst ∧ wst ≤ 31 := by have := HW31.out; omega
   go_wp2_with fail
   refine (KW.out wr HB0.out).mono ?_
   rintro e w2 ⟨rfl, rfl⟩
   go_wp2_with fail
   refine (KS.out w2 HB0.out).mono ?_
   rintro e w3 ⟨ma, mc, rfl, hm3, hb3⟩
   have HB3 : Hid (Below w.heap.size w w3) := HB0.out.trans (hb3.mono HB0.out.size)
   have HR3 : Hid (w3.heap[w.heap.size]? = some (.cells (subC ⟨0, 0, 0, 0, 0, [], R00⟩ none 0 none 0 none 0) 27 (0, 0))) := by show _ = _; rw [hb3.block _ (lt_of_block HR0.out)]; exact HR0.out
   have HM3 : Hid (IntsAt w3 ma m) := hm3
   clear hb3 hm3 HB0 HR0 KW KS
   have HKB : Hid ((w3.alloc (.cells (subC ⟨0, 0, 0, 0, 0, [], R00⟩ none 0 none 0 none 0) 27)).heap[w3.heap.size]? = some (.cells (subC ⟨0, 0, 0, 0, 0, [], R00⟩ none 0 none 0 none 0) 27 (0, 0))) := heap_alloc_new _ _
   have HA4 : Hid (Below w3.heap.size w3 (w3.alloc (.cells (subC ⟨0, 0, 0, 0, 0, [], R00⟩ none 0 none 0 none 0) 27))) := (Below.refl _ _).alloc (Nat.le_refl _) _
   go_upto_region 11 with fail
   have hkk : w.heap.size < w3.heap.size := lt_of_block HR3.out
   have HB4 : Hid (Below w.heap.size w (w3.alloc (.cells (subC ⟨0, 0, 0, 0, 0, [], R00⟩ none 0 none 0 none 0) 27))) := HB3.out.trans (HA4.out.mono HB3.out.size)
   have HR4 : Hid ((w3.alloc (.cells (subC ⟨0, 0, 0, 0, 0, [], R00⟩ none 0 none 0 none 0) 27)).heap[w.heap.size]? = some (.cells (subC ⟨0, 0, 0, 0, 0, [], R00⟩ none 0 none 0 none 0) 27 (0, 0))) := by show _ = _; rw [HA4.out.block _ (lt_of_block HR3.out)]; exact HR3.out
   have HM4 : Hid (IntsAt (w3.alloc (.cells (subC ⟨0, 0, 0, 0, 0, [], R00⟩ none 0 none 0 none 0) 27)) ma m) := HM3.out.below HA4.out
   have HMK : Hid (OffK w3.heap.size ma m) := fun h0 b hb => by
    obtain ⟨b', off, e, hc⟩ := HM3.out.lies h0
    have h7 : b' < w3.heap.size := lt_cell (hc 0 h0)
    rw [e] at hb
    have e5 : b' = b := by simpa [blockOf] using hb
    omega
   clear HB3 HR3 HM3 HA4
   generalize hw4 : World.alloc _ _ = w4 at *
   clear hw4
   generalize hkb : w3.heap.size = kb at *
   clear hkb
   have HT5 : Hid (TS w (.slice (some ⟨w4.heap.size, 0, none⟩) 2 2) (el2 wst) (w4.alloc (.cells #[.int .i64 0, .int .i64 0, .int .i64 wst, .int .i64 0, .int .i64 0, .slice none 0 0, .int .i64 0, .int .i64 0, .slice none 0 0, .slice none 0 0, .int .i64 1, .int .i64 0, .int .i64 wst, .int .i64 0, .int .i64 0, .slice none 0 0, .int .i64 0, .int .i64 0, .slice none 0 0, .slice none 0 0] 27))) := TS.two wst HB4.out
   have HA5 : Hid (Below w4.heap.size w4 (w4.alloc (.cells #[.int .i64 0, .int .i64 0, .int .i64 wst, .int .i64 0, .int .i64 0, .slice none 0 0, .int .i64 0, .int .i64 0, .slice none 0 0, .slice none 0 0, .int .i64 1, .int .i64 0, .int .i64 wst, .int .i64 0, .int .i64 0, .slice none 0 0, .int .i64 0, .int .i64 0, .slice none 0 0, .slice none 0 0] 27))) := (Below.refl _ _).alloc (Nat.le_refl _) _
   have hkg : kb < w4.heap.size := lt_of_block HKB.out
   have HR5 : Hid ((w4.alloc (.cells #[.int .i64 0, .int .i64 0, .int .i64 wst, .int .i64 0, .int .i64 0, .slice none 0 0, .int .i64 0, .int .i64 0, .slice none 0 0, .slice none 0 0, .int .i64 1, .int .i64 0, .int .i64 wst, .int .i64 0, .int .i64 0, .slice none 0 0, .int .i64 0, .int .i64 0, .slice none 0 0, .slice none 0 0] 27)).heap[w.heap.size]? = some (.cells (subC ⟨0, 0, 0, 0, 0, [], R00⟩ none 0 none 0 none 0) 27 (0, 0))) := by show _ = _; rw [HA5.out.block _ (lt_of_block HR4.out)]; exact HR4.out
   have HK5 : Hid ((w4.alloc (.cells #[.int .i64 0, .int .i64 0, .int .i64 wst, .int .i64 0, .int .i64 0, .slice none 0 0, .int .i64 0, .int .i64 0, .slice none 0 0, .slice none 0 0, .int .i64 1, .int .i64 0, .int .i64 wst, .int .i64 0, .int .i64 0, .slice none 0 0, .int .i64 0, .int .i64 0, .slice none 0 0, .slice none 0 0] 27)).heap[kb]? = some (.cells (subC ⟨0, 0, 0, 0, 0, [], R00⟩ none 0 none 0 none 0) 27 (0, 0))) := by show _ = _; rw [HA5.out.block _ hkg]; exact HKB.out
   have HMG : Hid (OffK w4.heap.size ma m) := fun h0 b hb => by
    obtain ⟨b', off, e, hc⟩ := HM4.out.lies h0
    have h7 : b' < w4.heap.size := lt_cell (hc 0 h0)
    rw [e] at hb
    have e5 : b' = b := by simpa [blockOf] using hb
    omega
   have HM5 : Hid (IntsAt (w4.alloc (.cells #[.int .i64 0, .int .i64 0, .int .i64 wst, .int .i64 0, .int .i64 0, .slice none 0 0, .int .i64 0, .int .i64 0, .slice none 0 0, .slice none 0 0, .int .i64 1, .int .i64 0, .int .i64 wst, .int .i64 0, .int .i64 0, .slice none 0 0, .int .i64 0, .int .i64 0, .slice none 0 0, .slice none 0 0] 27)) ma m) := HM4.out.below HA5.out
   have hg5 : w4.heap.size < (w4.alloc (.cells #[.int .i64 0, .int .i64 0, .int .i64 wst, .int .i64 0, .int .i64 0, .slice none 0 0, .int .i64 0, .int .i64 0, .slice none 0 0, .slice none 0 0, .int .i64 1, .int .i64 0, .int .i64 wst, .int .i64 0, .int .i64 0, .slice none 0 0, .int .i64 0, .int .i64 0, .slice none 0 0, .slice none 0 0] 27)).heap.size := by simp
   clear HB4 HR4 HM4 HA5 HKB
   go_upto_region 12 with fail
   generalize hw5 : World.alloc _ _ = w5 at *
   clear hw5
   generalize hg2 : w4.heap.size = g2 at *
   clear hg2
   obtain ⟨iS, hSa, hSb, hSc, hSd⟩ := sub_info12
   go_wp2_with fail
   refine (KT.out w5).mono ?_
   rintro e w6 ⟨so, cap, L, rfl, hts, hmap⟩
   have hLn : 3 ≤ L.length ∧ L.length ≤ 8 := by
    have h1 := congrArg List.length hmap
    unfold trL at h1
    simp only [List.length_map, List.length_append, List.length_range] at h1
    split at h1 <;> split at h1 <;> simp at h1 <;> omega
   obtain ⟨gt, ct, hvv, hge⟩ := hts.older (Below.refl _ _) (by omega)
   have hso : so = some ⟨gt, 0, none⟩ ∧ cap = ct := by cases hvv; exact ⟨rfl, rfl⟩
   obtain ⟨rfl, rfl⟩ := hso
   have HTT : Hid (TS w5 (.slice (some ⟨gt, 0, none⟩) L.length cap) L w6) := hts
   have HMQ : Hid ((el2 wst ++ L).map (·.q) = cnL lv wst) := by show _ = _; rw [List.map_append, hmap]; rfl
   have HT6 : Hid (TS w (.slice (some ⟨g2, 0, none⟩) 2 2) (el2 wst) w6) := HT5.out.low hts.below
   have HR6 : Hid (w6.heap[w.heap.size]? = some (.cells (subC ⟨0, 0, 0, 0, 0, [], R00⟩ none 0 none 0 none 0) 27 (0, 0))) := by show _ = _; rw [hts.below.block _ (lt_of_block HR5.out)]; exact HR5.out
   have HK6 : Hid (w6.heap[kb]? = some (.cells (subC ⟨0, 0, 0, 0, 0, [], R00⟩ none 0 none 0 none 0) 27 (0, 0))) := by show _ = _; rw [hts.below.block _ (lt_of_block HK5.out)]; exact HK5.out
   have HM6 : Hid (IntsAt w6 ma m) := HM5.out.below hts.below
   have h56 := hts.below.size
   clear hts hmap hvv HT5 HR5 HK5 HM5 KT
   go_wp2_with (at_builtin; refine wpList_append_lies _ rfl (.tmp 75) (.tmp 78) 39 rfl w.heap.size 27 iS (.agg (subC ⟨0, 0, 0, 0, 0, [], R00⟩ none 0 none 0 none 0)) 10 128 undSubs12 hSa hSb hSc hSd rfl (by decide) (.slice (some ⟨g2, 0, none⟩) 2 2) 2 (rowC (el2 wst)) rfl HT6.out.own ⟨gt, 0, none⟩ L.length cap (rowC L) rfl (rowC_len L) (own_news HTT.out.own) (rowC_one' L) (by omega) (by unfold maxLen; omega) (by omega) HT6.out.below.size _ rfl ?_; intro gA cA wA ownA groA hatA hltA)
   have HTA : Hid (TS w (.slice (some ⟨gA, 0, none⟩) (2 + L.length) cA) (el2 wst ++ L) wA) := HT6.out.push (M := L) ownA groA hatA (fun e he => ⟨HTT.out.ints e he, fun h0 b hb => by
    have := (HTT.out.apart e he h0 b hb).1
    have hw5 := HT6.out.below.size
    have hge2 : w.heap.size ≤ g2 := (HT6.out.own.lt g2 rfl).1
    exact ⟨by omega, fun e2 => by
     have e3 : g2 = b := by simpa [Value.ownBlock] using e2
     omega⟩⟩)
   have HUP : Hid (∀ e ∈ el2 wst ++ L, UpK kb e.ca e.q.C) := fun e he => by
    rcases List.mem_append.1 he with h1 | h1
    ·rcases List.mem_cons.1 h1 with rfl | h1
     ·exact fun h0 => absurd h0 (Nat.lt_irrefl 0)
     ·rw [List.mem_singleton] at h1; subst h1; exact fun h0 => absurd h0 (Nat.lt_irrefl 0)
    ·exact fun h0 b hb => by have := (HTT.out.apart e h1 h0 b hb).1; omega
   have keep : ∀ k, k ≠ g2 → k < w6.heap.size → wA.heap[k]? = w6.heap[k]? := fun k hk hl => groA.block k hl (fun e => hk (by simpa [Value.ownBlock] using e))
   have HRA : Hid (wA.heap[w.heap.size]? = some (.cells (subC ⟨0, 0, 0, 0, 0, [], R00⟩ none 0 none 0 none 0) 27 (0, 0))) := by show _ = _; rw [keep _ (by omega) (lt_of_block HR6.out)]; exact HR6.out
   have HKA : Hid (wA.heap[kb]? = some (.cells (subC ⟨0, 0, 0, 0, 0, [], R00⟩ none 0 none 0 none 0) 27 (0, 0))) := by show _ = _; rw [keep _ (by omega) (lt_of_block HK6.out)]; exact HK6.out
   have HMA : Hid (IntsAt wA ma m) := by
    refine ⟨HM6.out.len, HM6.out.num, fun h0 => ?_⟩
    obtain ⟨b, off, e, hc⟩ := HM6.out.lies h0
    refine ⟨b, off, e, fun j hj => ?_⟩
    have h3 := hc j hj
    rw [World.cell?_of_block (w := w6) (keep b (fun e2 => HMG.out h0 b (by rw [e]; rfl) e2) (lt_cell h3))]
    exact h3
   have hgk : gA ≠ kb := by
    have hk6 := lt_of_block HK6.out
    rcases hatA with h1 | h1
    ·have e3 : g2 = gA := by simpa [Value.ownBlock] using h1
     omega
    ·omega
   have HLI : Hid (LI w wA kb (((cnL lv wst).take 0).foldl (stS v l m) none) (.int .i64 (-1)) wA) := ⟨Stays.refl _ _, HRA.out, Or.inl ⟨rfl, rfl, HKA.out⟩, hkk⟩
   have HNN : Hid (2 + L.length = (cnL lv wst).length) := by
    have h1 := congrArg List.length HMQ.out
    rw [List.length_map, List.length_append] at h1
    exact h1
   clear ownA groA hatA hltA keep HT6 HR6 HK6 HM6 HTT HRA HKA hge h56 hg5 hkg
   have hN10 : 2 + L.length ≤ 10 := by omega
   generalize hNe : 2 + L.length = N at *
   clear hNe
   go_wp2_with fail
   go_loopw [13, 15] (fun s13 s15 wr => ∃ j : Nat, j ≤ N ∧ s15 = .int .i64 (j : Int) ∧ LI w wA kb (((cnL lv wst).take j).foldl (stS v l m) none) s13 wr) (fun _ s15 _ => N - (intOf s15).toNat)
   case atStart => exact ⟨0, Nat.zero_le _, rfl, HLI.out⟩
   case round =>
    clear HLI
    obtain ⟨j, hj, rfl, hli⟩ := hrel
    have HLI : Hid (LI w wA kb (((cnL lv wst).take j).foldl (stS v l m) none) u13 wr) := hli
    clear hli
    by_cases hlt : j < N
    ·have hlen : (el2 wst ++ L).length = N := by rw [HNN.out, ← HMQ.out, List.length_map]
     obtain ⟨e, he⟩ : ∃ e, (el2 wst ++ L)[j]? = some e := ⟨_, List.getElem?_eq_getElem (by rw [hlen]; exact hlt)⟩
     have hmem := List.mem_of_getElem? he
     obtain ⟨q, ca, cc⟩ := e
     have hq : (cnL lv wst)[j]? = some q := by rw [← HMQ.out, List.getElem?_map, he]; rfl
     have HTR : Hid (triedS wst q) := cnL_tried lv wst q (List.mem_of_getElem? hq)
     have HNX : Hid (((cnL lv wst).take (j + 1)).foldl (stS v l m) none = stS v l m (((cnL lv wst).take j).foldl (stS v l m) none) q) := by
      show _ = _
      rw [List.take_add_one, hq, List.foldl_append]; rfl
     have hown := HTA.out.own
     rw [hlen] at hown
     have hrow : ∀ i u, i < 10 → (elC ⟨q, ca, cc⟩)[i]? = some u → wr.cell? ⟨gA, j * 10 + i, none⟩ = some u := fun i u hi hu => by
      have h1 := own_news hown (j * 10 + i) u (by rw [rowC_get _ j i _ he hi]; exact hu)
      rw [Addr.add_mid, Nat.zero_add] at h1
      rw [World.cell?_of_block (w := wA) (HLI.out.st.block gA (lt_cell h1) (fun e2 => hgk e2))]
      exact h1
     have x0 : wr.cell? ⟨gA, j * 10, none⟩ = some (.int .i64 q.k) := hrow 0 _ (by decide) rfl
     have x1 : wr.cell? ⟨gA, j * 10 + 1, none⟩ = some (.int .i64 q.o) := hrow 1 _ (by decide) rfl
     have x2 : wr.cell? ⟨gA, j * 10 + 2, none⟩ = some (.int .i64 q.w) := hrow 2 _ (by decide) rfl
     have x3 : wr.cell? ⟨gA, j * 10 + 3, none⟩ = some (.int .i64 q.p) := hrow 3 _ (by decide) rfl
     have x4 : wr.cell? ⟨gA, j * 10 + 4, none⟩ = some (.int .i64 q.h) := hrow 4 _ (by decide) rfl
     have x5 : wr.cell? ⟨gA, j * 10 + 5, none⟩ = some (.slice ca q.C.length cc) := hrow 5 _ (by decide) rfl
     have x6 : wr.cell? ⟨gA, j * 10 + 6, none⟩ = some (.int .i64 q.R.m) := hrow 6 _ (by decide) rfl
     have x7 : wr.cell? ⟨gA, j * 10 + 7, none⟩ = some (.int .i64 q.R.o) := hrow 7 _ (by decide) rfl
     have x8 : wr.cell? ⟨gA, j * 10 + 8, none⟩ = some (.slice none q.R.P.length 0) := hrow 8 _ (by decide) rfl
     have x9 : wr.cell? ⟨gA, j * 10 + 9, none⟩ = some (.slice none q.R.E.length 0) := hrow 9 _ (by decide) rfl
     have HQR : Hid (q.R = R00 ∧ q.w = wst) := by
      rcases HTR.out with rfl | rfl | ⟨o, _, rfl⟩ | ⟨C, _, rfl⟩ <;> exact ⟨rfl, rfl⟩
     have HCI : Hid (IntsAt wr ca q.C) := ints_off (HTA.out.ints _ hmem) HLI.out.st (HUP.out _ hmem).off
     have HUQ : Hid (UpK kb ca q.C) := HUP.out _ hmem
     have HIM : Hid (IntsAt wr ma m) := ints_off HMA.out HLI.out.st HMK.out
     have HLW : Hid (IntsAt wr lo l) := HL.out.below (HLI.out.below HTA.out.below)
     have HS7 : Hid ((wr.alloc (.cells (subC q ca cc none 0 none 0) 27)).heap[wr.heap.size]? = some (.cells (subC q ca cc none 0 none 0) 27 (0, 0))) := heap_alloc_new _ _
     have HL7 : Hid (LI w wA kb (((cnL lv wst).take j).foldl (stS v l m) none) u13 (wr.alloc (.cells (subC q ca cc none 0 none 0) 27))) := HLI.out.low ((Below.refl _ _).alloc (Nat.le_refl _) _)
     have HB7 : Hid (Below wr.heap.size wr (wr.alloc (.cells (subC q ca cc none 0 none 0) 27))) := (Below.refl _ _).alloc (Nat.le_refl _) _
     have hkr : kb < wr.heap.size := HLI.out.bs.lt
     clear hown hrow he hq hmem hlen HMQ HTA HUP HMA HMG
     have HI64 : Hid ((I64 q.k ∧ I64 q.o ∧ I64 q.w) ∧ I64 q.p ∧ I64 q.h) := by
      rcases HTR.out with rfl | rfl | ⟨o, ho, rfl⟩ | ⟨C, hC, rfl⟩
      ·exact ⟨⟨by show I64 0; decide, by show I64 0; decide, by show I64 wst; omega⟩, by show I64 0; decide, by show I64 0; decide⟩
      ·exact ⟨⟨by show I64 1; decide, by show I64 0; decide, by show I64 wst; omega⟩, by show I64 0; decide, by show I64 0; decide⟩
      ·exact ⟨⟨by show I64 2; decide, by show I64 (o : Int); omega, by show I64 wst; omega⟩, by show I64 0; decide, by show I64 0; decide⟩
      ·have h4 := tried_o wst (lpS wst C) (Or.inr (Or.inr (Or.inr ⟨C, hC, rfl⟩)))
       exact ⟨⟨by show I64 3; decide, by omega, by show I64 wst; omega⟩, by show I64 7; decide, by show I64 5; decide⟩
     have HKD : Hid (((q.k = 0 ∨ q.k = 1) ∧ q.o = 0) ∨ q.k = 2 ∨ q.k = 3) := by
      rcases HTR.out with rfl | rfl | ⟨o, ho, rfl⟩ | ⟨C, hC, rfl⟩
      ·exact Or.inl ⟨Or.inl rfl, rfl⟩
      ·exact Or.inl ⟨Or.inr rfl, rfl⟩
      ·exact Or.inr (Or.inl rfl)
      ·exact Or.inr (Or.inr rfl)
     have HO4 : Hid (0 ≤ q.o ∧ q.o ≤ 4) := tried_o wst q HTR.out
     have KBT : Hid (∀ (s : Sb) (pa : Option Addr) (pc : Nat) (ea : Option Addr) (ec : Nat) (wx : World), s = wiS q m → q.o ≤ (l.length : Int) → SbAt wx s ca pa ea → Below wr.heap.size wr wx → Calls Tryz.prog 36 #[subV s ca cc pa pc ea ec, .int .i64 v, .slice lo l.length lc] wx fun en w' => en = .returned (.int .i64 (bitI (vaB q l) (subB s v l).length)) ∧ Below wx.heap.size wx w') := fun s pa pc ea ec wx hs ho hsb hb => by
      have h1 := HTO.out q HTR.out ho
      rw [← hs] at h1
      have hw31 : s.w ≤ 31 := by rw [hs, (wiS_k q m).2.2.1, HQR.out.2]; omega
      exact xbits12 s ca cc pa pc ea ec v l lo lc wx hsb (HLW.out.below hb) h1.1 hw31 (vaB q l) h1.2
     rcases HKD.out with hk | hk
     ·have HWI : Hid (wiS q m = q) := by show _ = _; unfold wiS; rw [if_pos hk.1]
      have ho : q.o ≤ (l.length : Int) := by omega
      have HSB7 : Hid (∀ wx, Below wr.heap.size wr wx → SbAt wx q ca none none) := fun wx hb => by
       have hR := HQR.out.1
       exact ⟨HCI.out.below hb, by rw [hR]; exact ⟨IntsAt.nil _, IntsAt.nil _, by decide, by decide, by decide, by decide⟩, HI64.out.1.1, HI64.out.1.2.1, HI64.out.1.2.2, HI64.out.2.1, HI64.out.2.2⟩
      have c2 : (q.k == 2) = false := by rw [beq_eq_false_iff_ne]; omega
      have c3 : (q.k == 3) = false := by rw [beq_eq_false_iff_ne]; omega
      have hk2 : q.k < 2 ∧ 0 ≤ q.k := by omega
      cases hva : vaB q l with
      | false =>
       have HSTP : Hid (stS v l m (((cnL lv wst).take j).foldl (stS v l m) none) q = (((cnL lv wst).take j).foldl (stS v l m) none)) := by show _ = _; unfold stS; rw [hva]; rfl
       have KB7 : Hid (∀ wx, Below wr.heap.size wr wx → Calls Tryz.prog 36 #[subV q ca cc none 0 none 0, .int .i64 v, .slice lo l.length lc] wx fun en w' => en = .returned (.int .i64 (-1)) ∧ Below wx.heap.size wx w') := fun wx hb => by
        have k := KBT.out q none 0 none 0 wx HWI.out.symm ho (HSB7.out wx hb) hb
        rw [hva] at k
        exact k
       clear hva hk KBT
       go_upto_region 17 with fail
       generalize hw7 : World.alloc _ _ = w7 at *
       clear hw7
       generalize hks : wr.heap.size = ks at *
       clear hks
       obtain ⟨y0, y1, y2, y3, y4, y5, y6, y7, y8, y9⟩ := sub_cells HS7.out
       go_wp2_with fail
       refine (KB7.out w7 HB7.out).mono ?_
       rintro e w8 ⟨rfl, hb8⟩
       have HL8 := kQ12 (HL7.out.low hb8)
       have HS8 : Hid (w8.heap[ks]? = some (.cells (subC q ca cc none 0 none 0) 27 (0, 0))) := by show _ = _; rw [hb8.block _ (lt_of_block HS7.out)]; exact HS7.out
       have HSB8 : Hid (SbAt w8 q ca none none) := (HSB7.out w7 HB7.out).below hb8
       have HUP8 : Hid (UpK kb none q.R.P ∧ UpK kb none q.R.E) := ⟨up_none kb _, up_none kb _⟩
       clear hb8 HL7 HS7 HB7 KB7 HSB7 y0 y1 y2 y3 y4 y5 y6 y7 y8 y9
       go_wp2_with fail
       go_roundw
       case rel => exact ⟨j + 1, by omega, by go_num, by rw [HNX.out, HSTP.out]; exact HL8.out⟩
       case measure => simp [intOf]; omega
      | true =>
       have KB7 : Hid (∀ wx, Below wr.heap.size wr wx → Calls Tryz.prog 36 #[subV q ca cc none 0 none 0, .int .i64 v, .slice lo l.length lc] wx fun en w' => en = .returned (.int .i64 ((subB q v l).length : Int)) ∧ Below wx.heap.size wx w') := fun wx hb => by
        have k := KBT.out q none 0 none 0 wx HWI.out.symm ho (HSB7.out wx hb) hb
        rw [hva] at k
        exact k
       clear hk KBT
       have HNBB : Hid ((subB q v l).length = (subB q v l).length) := rfl
       generalize hnb : (subB q v l).length = nb at *
       have HNB : Hid ((subB q v l).length = nb) := hnb
       clear hnb HNBB
       have HB_ := HL7.out.bs
       rcases HB_ with ⟨h1, hs, _⟩ | ⟨q0, n0, _, _, _, _, _, _, h1, hs, _⟩
       ·subst hs
        have HSTP : Hid (stS v l m (((cnL lv wst).take j).foldl (stS v l m) none) q = some (q, nb)) := by show _ = _; rw [h1]; unfold stS; rw [if_pos hva, HWI.out, HNB.out]
        clear h1 hva HNB
        go_upto_region 17 with fail
        generalize hw7 : World.alloc _ _ = w7 at *
        clear hw7
        generalize hks : wr.heap.size = ks at *
        clear hks
        obtain ⟨y0, y1, y2, y3, y4, y5, y6, y7, y8, y9⟩ := sub_cells HS7.out
        go_wp2_with fail
        refine (KB7.out w7 HB7.out).mono ?_
        rintro e w8 ⟨rfl, hb8⟩
        have HL8 := kQ12 (HL7.out.low hb8)
        have HS8 : Hid (w8.heap[ks]? = some (.cells (subC q ca cc none 0 none 0) 27 (0, 0))) := by show _ = _; rw [hb8.block _ (lt_of_block HS7.out)]; exact HS7.out
        have HSB8 : Hid (SbAt w8 q ca none none) := (HSB7.out w7 HB7.out).below hb8
        have HUP8 : Hid (UpK kb none q.R.P ∧ UpK kb none q.R.E) := ⟨up_none kb _, up_none kb _⟩
        clear hb8 HL7 HS7 HB7 KB7 HSB7 y0 y1 y2 y3 y4 y5 y6 y7 y8 y9
        obtain ⟨q9, a1, a2, a3, a4, a5, a6, hbx⟩ := HL8.out.bs.box
        obtain ⟨z0, z1, z2, z3, z4, z5, z6, z7, z8, z9⟩ := sub_cells hbx
        have fz0 : w8.frozen? ⟨kb, 0, none⟩ = false := by simp [World.frozen?, hbx]
        have fz1 : w8.frozen? ⟨kb, 1, none⟩ = false := by simp [World.frozen?, hbx]
        have fz2 : w8.frozen? ⟨kb, 2, none⟩ = false := by simp [World.frozen?, hbx]
        have fz3 : w8.frozen? ⟨kb, 3, none⟩ = false := by simp [World.frozen?, hbx]
        have fz4 : w8.frozen? ⟨kb, 4, none⟩ = false := by simp [World.frozen?, hbx]
        have fz5 : w8.frozen? ⟨kb, 5, none⟩ = false := by simp [World.frozen?, hbx]
        have fz6 : w8.frozen? ⟨kb, 6, none⟩ = false := by simp [World.frozen?, hbx]
        have fz7 : w8.frozen? ⟨kb, 7, none⟩ = false := by simp [World.frozen?, hbx]
        have fz8 : w8.frozen? ⟨kb, 8, none⟩ = false := by simp [World.frozen?, hbx]
        have fz9 : w8.frozen? ⟨kb, 9, none⟩ = false := by simp [World.frozen?, hbx]
        obtain ⟨y0, y1, y2, y3, y4, y5, y6, y7, y8, y9⟩ := sub_cells HS8.out
        have HFI := HL8.out.take q nb (ca := ca) (cc := cc) (pa := none) (pc := 0) (ea := none) (ec := 0) HSB8.out HUQ.out HUP8.out.1 HUP8.out.2
        clear hbx
        go_wp2_with fail
        generalize hwf : World.setCell _ _ _ = wf at *
        have HFJ : Hid (LI w wA kb (some (q, nb)) (.int .i64 (nb : Int)) wf) := HFI
        clear hwf HFI z0 z1 z2 z3 z4 z5 z6 z7 z8 z9 y0 y1 y2 y3 y4 y5 y6 y7 y8 y9
        go_roundw
        case rel => exact ⟨j + 1, by omega, by go_num, by rw [HNX.out, HSTP.out]; exact HFJ.out⟩
        case measure => simp [intOf]; omega
       ·subst hs
        by_cases hnn : nb < n0
        ·have HSTP : Hid (stS v l m (((cnL lv wst).take j).foldl (stS v l m) none) q = some (q, nb)) := by show _ = _; rw [h1]; unfold stS; rw [if_pos hva, HWI.out, HNB.out]; exact if_pos hnn
         clear h1 hva HNB
         go_upto_region 17 with fail
         generalize hw7 : World.alloc _ _ = w7 at *
         clear hw7
         generalize hks : wr.heap.size = ks at *
         clear hks
         obtain ⟨y0, y1, y2, y3, y4, y5, y6, y7, y8, y9⟩ := sub_cells HS7.out
         go_wp2_with fail
         refine (KB7.out w7 HB7.out).mono ?_
         rintro e w8 ⟨rfl, hb8⟩
         have HL8 := kQ12 (HL7.out.low hb8)
         have HS8 : Hid (w8.heap[ks]? = some (.cells (subC q ca cc none 0 none 0) 27 (0, 0))) := by show _ = _; rw [hb8.block _ (lt_of_block HS7.out)]; exact HS7.out
         have HSB8 : Hid (SbAt w8 q ca none none) := (HSB7.out w7 HB7.out).below hb8
         have HUP8 : Hid (UpK kb none q.R.P ∧ UpK kb none q.R.E) := ⟨up_none kb _, up_none kb _⟩
         clear hb8 HL7 HS7 HB7 KB7 HSB7 y0 y1 y2 y3 y4 y5 y6 y7 y8 y9
         obtain ⟨q9, a1, a2, a3, a4, a5, a6, hbx⟩ := HL8.out.bs.box
         obtain ⟨z0, z1, z2, z3, z4, z5, z6, z7, z8, z9⟩ := sub_cells hbx
         have fz0 : w8.frozen? ⟨kb, 0, none⟩ = false := by simp [World.frozen?, hbx]
         have fz1 : w8.frozen? ⟨kb, 1, none⟩ = false := by simp [World.frozen?, hbx]
         have fz2 : w8.frozen? ⟨kb, 2, none⟩ = false := by simp [World.frozen?, hbx]
         have fz3 : w8.frozen? ⟨kb, 3, none⟩ = false := by simp [World.frozen?, hbx]
         have fz4 : w8.frozen? ⟨kb, 4, none⟩ = false := by simp [World.frozen?, hbx]
         have fz5 : w8.frozen? ⟨kb, 5, none⟩ = false := by simp [World.frozen?, hbx]
         have fz6 : w8.frozen? ⟨kb, 6, none⟩ = false := by simp [World.frozen?, hbx]
         have fz7 : w8.frozen? ⟨kb, 7, none⟩ = false := by simp [World.frozen?, hbx]
         have fz8 : w8.frozen? ⟨kb, 8, none⟩ = false := by simp [World.frozen?, hbx]
         have fz9 : w8.frozen? ⟨kb, 9, none⟩ = false := by simp [World.frozen?, hbx]
         obtain ⟨y0, y1, y2, y3, y4, y5, y6, y7, y8, y9⟩ := sub_cells HS8.out
         have HFI := HL8.out.take q nb (ca := ca) (cc := cc) (pa := none) (pc := 0) (ea := none) (ec := 0) HSB8.out HUQ.out HUP8.out.1 HUP8.out.2
         clear hbx
         go_wp2_with fail
         generalize hwf : World.setCell _ _ _ = wf at *
         have HFJ : Hid (LI w wA kb (some (q, nb)) (.int .i64 (nb : Int)) wf) := HFI
         clear hwf HFI z0 z1 z2 z3 z4 z5 z6 z7 z8 z9 y0 y1 y2 y3 y4 y5 y6 y7 y8 y9
         go_roundw
         case rel => exact ⟨j + 1, by omega, by go_num, by rw [HNX.out, HSTP.out]; exact HFJ.out⟩
         case measure => simp [intOf]; omega
        ·have HSTP : Hid (stS v l m (((cnL lv wst).take j).foldl (stS v l m) none) q = (((cnL lv wst).take j).foldl (stS v l m) none)) := by show _ = _; rw [h1]; unfold stS; rw [if_pos hva, HWI.out, HNB.out]; exact if_neg hnn
         clear h1 hva HNB
         go_upto_region 17 with fail
         generalize hw7 : World.alloc _ _ = w7 at *
         clear hw7
         generalize hks : wr.heap.size = ks at *
         clear hks
         obtain ⟨y0, y1, y2, y3, y4, y5, y6, y7, y8, y9⟩ := sub_cells HS7.out
         go_wp2_with fail
         refine (KB7.out w7 HB7.out).mono ?_
         rintro e w8 ⟨rfl, hb8⟩
         have HL8 := kQ12 (HL7.out.low hb8)
         have HS8 : Hid (w8.heap[ks]? = some (.cells (subC q ca cc none 0 none 0) 27 (0, 0))) := by show _ = _; rw [hb8.block _ (lt_of_block HS7.out)]; exact HS7.out
         have HSB8 : Hid (SbAt w8 q ca none none) := (HSB7.out w7 HB7.out).below hb8
         have HUP8 : Hid (UpK kb none q.R.P ∧ UpK kb none q.R.E) := ⟨up_none kb _, up_none kb _⟩
         clear hb8 HL7 HS7 HB7 KB7 HSB7 y0 y1 y2 y3 y4 y5 y6 y7 y8 y9
         go_wp2_with fail
         go_roundw
         case rel => exact ⟨j + 1, by omega, by go_num, by rw [HNX.out, HSTP.out]; exact HL8.out⟩
         case measure => simp [intOf]; omega
     ·rcases hk with hk | hk
      ·obtain ⟨qk, qo, qw, qp, qh, qC, qR⟩ := q
       have hk' : qk = 2 := hk
       clear hk
       subst hk'
       dsimp only at *
       have ho4' := HO4.out
       obtain ⟨on, hqo⟩ : ∃ on : Nat, qo = (on : Int) := ⟨qo.toNat, by omega⟩
       clear ho4'
       subst hqo
       have ho4 := HO4.out
       by_cases ho : (on : Int) ≤ (l.length : Int)
       ·have hml := HML.out
        have HVA : Hid (vaB (⟨2, (on : Int), qw, qp, qh, qC, qR⟩ : Sb) l = true) := by show _ = _; unfold vaB; rw [if_neg (show ¬ (2 : Int) = 0 by decide), if_neg (show ¬ (2 : Int) = 1 by decide)]; exact decide_eq_true ho
        have hva := HVA.out
        have HON : Hid (((on : Int)).toNat = on) := by show _ = _; omega
        have HEO := HTE.out (⟨2, (on : Int), qw, qp, qh, qC, qR⟩ : Sb) HTR.out (by first | exact Or.inl rfl | exact Or.inr rfl)
        obtain ⟨s, hs_⟩ : ∃ s, s = wiS (⟨2, (on : Int), qw, qp, qh, qC, qR⟩ : Sb) m := ⟨_, rfl⟩
        obtain ⟨B, hB_⟩ : ∃ B, B = brN l.length on (resN (⟨2, (on : Int), qw, qp, qh, qC, qR⟩ : Sb) m) := ⟨_, rfl⟩
        have HWI : Hid (wiS (⟨2, (on : Int), qw, qp, qh, qC, qR⟩ : Sb) m = s) := hs_.symm
        have HSR : Hid (s.R = B) := by show _ = _; rw [hs_, hB_]; unfold wiS; rw [if_neg (show ¬ ((2 : Int) = 0 ∨ (2 : Int) = 1) by decide), hml, HON.out]
        have HSE : Hid (∀ pa pc ea ec, subC s ca cc pa pc ea ec = #[.int .i64 (2 : Int), .int .i64 (on : Int), .int .i64 qw, .int .i64 qp, .int .i64 qh, .slice ca qC.length cc, .int .i64 B.m, .int .i64 B.o, .slice pa B.P.length pc, .slice ea B.E.length ec]) := fun pa pc ea ec => by
         obtain ⟨e1, e2, e3, e4, e5, e6⟩ := wiS_k (⟨2, (on : Int), qw, qp, qh, qC, qR⟩ : Sb) m
         rw [← hs_] at e1 e2 e3 e4 e5 e6
         unfold subC
         rw [e1, e2, e3, e4, e5, e6, HSR.out]
        have HSS : Hid (∀ wx pa ea, Below wr.heap.size wr wx → RcAt wx B pa ea → SbAt wx s ca pa ea) := fun wx pa ea hb hr => by
         obtain ⟨e1, e2, e3, e4, e5, e6⟩ := wiS_k (⟨2, (on : Int), qw, qp, qh, qC, qR⟩ : Sb) m
         rw [← hs_] at e1 e2 e3 e4 e5 e6
         exact ⟨by rw [e6]; exact HCI.out.below hb, by rw [HSR.out]; exact hr, by rw [e1]; exact HI64.out.1.1, by rw [e2]; exact HI64.out.1.2.1, by rw [e3]; exact HI64.out.1.2.2, by rw [e4]; exact HI64.out.2.1, by rw [e5]; exact HI64.out.2.2⟩
        have HUQ : Hid (UpK kb ca s.C) := by rw [hs_, (wiS_k (⟨2, (on : Int), qw, qp, qh, qC, qR⟩ : Sb) m).2.2.2.2.2]; exact HUQ.out
        have KF7 : Hid (∀ wx, Below wr.heap.size wr wx → Calls Tryz.prog 33 #[.int .i64 (on : Int), .slice ma m.length mc] wx fun e w' => ∃ la lb, e = .returned (.tuple #[.slice la (resN (⟨2, (on : Int), qw, qp, qh, qC, qR⟩ : Sb) m).length lb, .int .i64 0]) ∧ IntsAt w' la (resN (⟨2, (on : Int), qw, qp, qh, qC, qR⟩ : Sb) m) ∧ ((resN (⟨2, (on : Int), qw, qp, qh, qC, qR⟩ : Sb) m).length ≤ lb ∧ (la = none → lb = 0)) ∧ Below wx.heap.size wx w') := fun wx hb => by
         have k := xfixed_cap (on : Int) m ma mc wx (HIM.out.below hb)
         have e : fixR (on : Int) m = some (resN (⟨2, (on : Int), qw, qp, qh, qC, qR⟩ : Sb) m) := by unfold fixR resN; rw [if_pos (by omega), if_pos rfl]
         rw [e] at k
         exact k
        have KBE : Hid (∀ wx la lb, IntsAt wx la (resN (⟨2, (on : Int), qw, qp, qh, qC, qR⟩ : Sb) m) → ((resN (⟨2, (on : Int), qw, qp, qh, qC, qR⟩ : Sb) m).length ≤ lb ∧ (la = none → lb = 0)) → Calls Tryz.prog 35 #[.int .i64 (l.length : Int), .int .i64 (on : Int), .slice la (resN (⟨2, (on : Int), qw, qp, qh, qC, qR⟩ : Sb) m).length lb] wx fun e w' => ∃ pa pc ea ec, e = .returned (.tuple #[riceV B pa pc ea ec, .int .i64 (ordS (resN (⟨2, (on : Int), qw, qp, qh, qC, qR⟩ : Sb) m) l.length on (bestK (ordS (resN (⟨2, (on : Int), qw, qp, qh, qC, qR⟩ : Sb) m) l.length on) (fnO l.length on)) : Int)]) ∧ RcAt w' B pa ea ∧ Below wx.heap.size wx w' ∧ (∀ g, blockOf pa = some g → wx.heap.size ≤ g) ∧ (∀ g, blockOf ea = some g → wx.heap.size ≤ g)) := fun wx la lb h1 h2 => by
         have hf := fnO_best l.length on hn1 hn2 (by omega) (by omega)
         rw [hB_]
         exact xbest_main l.length (fnO l.length on) on (fnO_cut l.length on hn1 hn2 (by omega) (by omega)) hf.1 hf.2.2 (resN (⟨2, (on : Int), qw, qp, qh, qC, qR⟩ : Sb) m) HEO.1 la lb h2.1 h2.2 wx h1 (by rw [HEO.2, hml, HON.out])
        have KB7 : Hid (∀ wx (pa : Option Addr) (pc : Nat) (ea : Option Addr) (ec : Nat), Below wr.heap.size wr wx → SbAt wx s ca pa ea → Calls Tryz.prog 36 #[subV s ca cc pa pc ea ec, .int .i64 v, .slice lo l.length lc] wx fun en w' => en = .returned (.int .i64 ((subB s v l).length : Int)) ∧ Below wx.heap.size wx w') := fun wx pa pc ea ec hb hsb => by
         have k := KBT.out s pa pc ea ec wx hs_ ho hsb hb
         rw [hva] at k
         exact k
        clear HVA hs_ hB_ KBT ho
        clear HEO hml
        generalize ordS (resN (⟨2, (on : Int), qw, qp, qh, qC, qR⟩ : Sb) m) l.length on (bestK (ordS (resN (⟨2, (on : Int), qw, qp, qh, qC, qR⟩ : Sb) m) l.length on) (fnO l.length on)) = nB at *
        generalize (resN (⟨2, (on : Int), qw, qp, qh, qC, qR⟩ : Sb) m) = RS_ at *
        have HNBB : Hid ((subB s v l).length = (subB s v l).length) := rfl
        generalize hnb : (subB s v l).length = nb at *
        have HNB : Hid ((subB s v l).length = nb) := hnb
        clear hnb HNBB
        have HB_ := HL7.out.bs
        rcases HB_ with ⟨h1, hs, _⟩ | ⟨q0, n0, _, _, _, _, _, _, h1, hs, _⟩
        ·subst hs
         have HSTP : Hid (stS v l m (((cnL lv wst).take j).foldl (stS v l m) none) (⟨2, (on : Int), qw, qp, qh, qC, qR⟩ : Sb) = some (s, nb)) := by show _ = _; rw [h1]; unfold stS; rw [if_pos hva, HWI.out, HNB.out]
         clear h1 hva HNB
         go_upto_region 17 with fail
         generalize hw7 : World.alloc _ _ = w7 at *
         clear hw7
         generalize hks : wr.heap.size = ks at *
         have HKS : Hid (wr.heap.size = ks) := hks
         clear hks
         obtain ⟨y0, y1, y2, y3, y4, y5, y6, y7, y8, y9⟩ := sub_cells HS7.out
         go_wp2_with fail
         refine (KF7.out w7 HB7.out).mono ?_
         rintro e w8 ⟨la, lb, rfl, hla, hcp, hb8⟩
         have HB8 : Hid (Below ks wr w8) := HB7.out.trans (hb8.mono (Nat.le_of_lt (lt_of_block HS7.out)))
         have HS8 : Hid (w8.heap[ks]? = some (.cells (subC (⟨2, (on : Int), qw, qp, qh, qC, qR⟩ : Sb) ca cc none 0 none 0) 27 (0, 0))) := by show _ = _; rw [hb8.block _ (lt_of_block HS7.out)]; exact HS7.out
         have kbe := KBE.out w8 la lb hla hcp
         have h8k : ks < w8.heap.size := lt_of_block HS8.out
         clear hb8 hla hcp HS7 HB7 HL7 KF7 y0 y1 y2 y3 y4 y5 y6 y7 y8 y9
         obtain ⟨y0, y1, y2, y3, y4, y5, y6, y7, y8, y9⟩ := sub_cells HS8.out
         go_wp2_with fail
         refine kbe.mono ?_
         rintro e w9 ⟨pa, pc, ea, ec, rfl, hrc, hb9, fp, fe⟩
         have HB9 : Hid (Below ks wr w9) := HB8.out.trans (hb9.mono (Nat.le_of_lt h8k))
         have HS9 : Hid (w9.heap[ks]? = some (.cells (subC (⟨2, (on : Int), qw, qp, qh, qC, qR⟩ : Sb) ca cc none 0 none 0) 27 (0, 0))) := by show _ = _; rw [hb9.block _ h8k]; exact HS8.out
         have HRC9 : Hid (RcAt w9 B pa ea) := hrc
         have HFR : Hid ((∀ g, blockOf pa = some g → w8.heap.size ≤ g) ∧ (∀ g, blockOf ea = some g → w8.heap.size ≤ g)) := ⟨fp, fe⟩
         have h9k : ks < w9.heap.size := lt_of_block HS9.out
         have HA10 : Hid (Below w9.heap.size w9 (w9.alloc (.cells (riceC B pa pc ea ec) 25))) := (Below.refl _ _).alloc (Nat.le_refl _) _
         have HR10 : Hid ((w9.alloc (.cells (riceC B pa pc ea ec) 25)).heap[w9.heap.size]? = some (.cells (riceC B pa pc ea ec) 25 (0, 0))) := heap_alloc_new _ _
         have HB10 : Hid (Below ks wr (w9.alloc (.cells (riceC B pa pc ea ec) 25))) := HB9.out.trans (HA10.out.mono (Nat.le_of_lt h9k))
         have HS10 : Hid ((w9.alloc (.cells (riceC B pa pc ea ec) 25)).heap[ks]? = some (.cells (subC (⟨2, (on : Int), qw, qp, qh, qC, qR⟩ : Sb) ca cc none 0 none 0) 27 (0, 0))) := by show _ = _; rw [HA10.out.block _ h9k]; exact HS9.out
         have HRC10 : Hid (RcAt (w9.alloc (.cells (riceC B pa pc ea ec) 25)) B pa ea) := HRC9.out.below HA10.out
         clear hrc hb9 fp fe kbe HB8 HS8 HB9 HS9 HRC9 HA10 y0 y1 y2 y3 y4 y5 y6 y7 y8 y9
         go_upto_region 26 with fail
         generalize hw10 : World.alloc _ _ = w10 at *
         clear hw10
         generalize hkr2 : w9.heap.size = kr at *
         clear hkr2
         obtain ⟨y0, y1, y2, y3, y4, y5, y6, y7, y8, y9⟩ := sub_cells HS10.out
         have r0 : w10.cell? ⟨kr, 0, none⟩ = some (.int .i64 B.m) := by rw [cell_of_row _ _ _ _ _ _ HR10.out]; rfl
         have r1 : w10.cell? ⟨kr, 1, none⟩ = some (.int .i64 B.o) := by rw [cell_of_row _ _ _ _ _ _ HR10.out]; rfl
         have r2 : w10.cell? ⟨kr, 2, none⟩ = some (.slice pa B.P.length pc) := by rw [cell_of_row _ _ _ _ _ _ HR10.out]; rfl
         have r3 : w10.cell? ⟨kr, 3, none⟩ = some (.slice ea B.E.length ec) := by rw [cell_of_row _ _ _ _ _ _ HR10.out]; rfl
         have fy6 : w10.frozen? ⟨ks, 6, none⟩ = false := by simp [World.frozen?, HS10.out]
         have fy7 : w10.frozen? ⟨ks, 7, none⟩ = false := by simp [World.frozen?, HS10.out]
         have fy8 : w10.frozen? ⟨ks, 8, none⟩ = false := by simp [World.frozen?, HS10.out]
         have fy9 : w10.frozen? ⟨ks, 9, none⟩ = false := by simp [World.frozen?, HS10.out]
         go_upto_region 28 with fail
         generalize hw11 : World.setCell _ _ _ = w11 at *
         have HST11 : Hid (Stays (only ks) w10 w11) := by
          show Stays (only ks) w10 w11
          rw [← hw11]
          exact st4_o _ _ _ _ _
         have HS11 : Hid (w11.heap[ks]? = some (.cells (subC s ca cc pa pc ea ec) 27 (0, 0))) := by
          show _ = _
          rw [← hw11, HSE.out _ _ _ _]
          rw [block_setCell _ _ _ _ _ _ (block_setCell _ _ _ _ _ _ (block_setCell _ _ _ _ _ _ (block_setCell _ _ _ _ _ _ HS10.out)))]
          rfl
         have HB11 : Hid (Below ks wr w11) := by
          show Below ks wr w11
          rw [← hw11]
          exact (((HB10.out.setCell (Nat.le_refl _) _).setCell (Nat.le_refl _) _).setCell (Nat.le_refl _) _).setCell (Nat.le_refl _) _
         have HUS : Hid (UpK ks pa B.P ∧ UpK ks ea B.E) := ⟨fun _ b hb => by have := HFR.out.1 b hb; omega, fun _ b hb => by have := HFR.out.2 b hb; omega⟩
         have HRC11 : Hid (RcAt w11 B pa ea) := ⟨ints_off HRC10.out.P HST11.out HUS.out.1.off, ints_off HRC10.out.E HST11.out HUS.out.2.off, HRC10.out.m1, HRC10.out.m2, HRC10.out.o1, HRC10.out.o2⟩
         have HSB11 : Hid (SbAt w11 s ca pa ea) := HSS.out w11 pa ea HB11.out HRC11.out
         clear hw11 HST11 HB10 HS10 HR10 HRC10 r0 r1 r2 r3 fy6 fy7 fy8 fy9 y0 y1 y2 y3 y4 y5 y6 y7 y8 y9
         obtain ⟨y0, y1, y2, y3, y4, y5, y6, y7, y8, y9⟩ := sub_cells HS11.out
         go_wp2_with fail
         refine (KB7.out w11 pa pc ea ec HB11.out HSB11.out).mono ?_
         rintro e w8b ⟨rfl, hb12⟩
         obtain ⟨w8, hw8⟩ : ∃ w8, w8 = w8b := ⟨_, rfl⟩
         subst hw8
         have HL8 := kQ12 (HLI.out.low (by rw [HKS.out]; exact HB11.out.trans (hb12.mono (Nat.le_of_lt (lt_of_block HS11.out)))))
         have HS8 : Hid (w8.heap[ks]? = some (.cells (subC s ca cc pa pc ea ec) 27 (0, 0))) := by show _ = _; rw [hb12.block _ (lt_of_block HS11.out)]; exact HS11.out
         have HSB8 : Hid (SbAt w8 s ca pa ea) := HSB11.out.below hb12
         have HUP8 : Hid (UpK kb pa s.R.P ∧ UpK kb ea s.R.E) := by
          rw [HSR.out]
          exact ⟨fun h0 b hb => by have := HUS.out.1 h0 b hb; omega, fun h0 b hb => by have := HUS.out.2 h0 b hb; omega⟩
         clear hb12 HB11 HS11 HSB11 KB7 HRC11 HFR y0 y1 y2 y3 y4 y5 y6 y7 y8 y9
         obtain ⟨q9, a1, a2, a3, a4, a5, a6, hbx⟩ := HL8.out.bs.box
         obtain ⟨z0, z1, z2, z3, z4, z5, z6, z7, z8, z9⟩ := sub_cells hbx
         have fz0 : w8.frozen? ⟨kb, 0, none⟩ = false := by simp [World.frozen?, hbx]
         have fz1 : w8.frozen? ⟨kb, 1, none⟩ = false := by simp [World.frozen?, hbx]
         have fz2 : w8.frozen? ⟨kb, 2, none⟩ = false := by simp [World.frozen?, hbx]
         have fz3 : w8.frozen? ⟨kb, 3, none⟩ = false := by simp [World.frozen?, hbx]
         have fz4 : w8.frozen? ⟨kb, 4, none⟩ = false := by simp [World.frozen?, hbx]
         have fz5 : w8.frozen? ⟨kb, 5, none⟩ = false := by simp [World.frozen?, hbx]
         have fz6 : w8.frozen? ⟨kb, 6, none⟩ = false := by simp [World.frozen?, hbx]
         have fz7 : w8.frozen? ⟨kb, 7, none⟩ = false := by simp [World.frozen?, hbx]
         have fz8 : w8.frozen? ⟨kb, 8, none⟩ = false := by simp [World.frozen?, hbx]
         have fz9 : w8.frozen? ⟨kb, 9, none⟩ = false := by simp [World.frozen?, hbx]
         obtain ⟨y0, y1, y2, y3, y4, y5, y6, y7, y8, y9⟩ := sub_cells HS8.out
         have HFI := HL8.out.take s nb (ca := ca) (cc := cc) (pa := pa) (pc := pc) (ea := ea) (ec := ec) HSB8.out HUQ.out HUP8.out.1 HUP8.out.2
         clear hbx
         go_wp2_with fail
         generalize hwf : World.setCell _ _ _ = wf at *
         have HFJ : Hid (LI w wA kb (some (s, nb)) (.int .i64 (nb : Int)) wf) := HFI
         clear hwf HFI z0 z1 z2 z3 z4 z5 z6 z7 z8 z9 y0 y1 y2 y3 y4 y5 y6 y7 y8 y9
         go_roundw
         case rel => exact ⟨j + 1, by omega, by go_num, by rw [HNX.out, HSTP.out]; exact HFJ.out⟩
         case measure => simp [intOf]; omega
        ·subst hs
         by_cases hnn : nb < n0
         ·have HSTP : Hid (stS v l m (((cnL lv wst).take j).foldl (stS v l m) none) (⟨2, (on : Int), qw, qp, qh, qC, qR⟩ : Sb) = some (s, nb)) := by show _ = _; rw [h1]; unfold stS; rw [if_pos hva, HWI.out, HNB.out]; exact if_pos hnn
          clear h1 hva HNB
          go_upto_region 17 with fail
          generalize hw7 : World.alloc _ _ = w7 at *
          clear hw7
          generalize hks : wr.heap.size = ks at *
          have HKS : Hid (wr.heap.size = ks) := hks
          clear hks
          obtain ⟨y0, y1, y2, y3, y4, y5, y6, y7, y8, y9⟩ := sub_cells HS7.out
          go_wp2_with fail
          refine (KF7.out w7 HB7.out).mono ?_
          rintro e w8 ⟨la, lb, rfl, hla, hcp, hb8⟩
          have HB8 : Hid (Below ks wr w8) := HB7.out.trans (hb8.mono (Nat.le_of_lt (lt_of_block HS7.out)))
          have HS8 : Hid (w8.heap[ks]? = some (.cells (subC (⟨2, (on : Int), qw, qp, qh, qC, qR⟩ : Sb) ca cc none 0 none 0) 27 (0, 0))) := by show _ = _; rw [hb8.block _ (lt_of_block HS7.out)]; exact HS7.out
          have kbe := KBE.out w8 la lb hla hcp
          have h8k : ks < w8.heap.size := lt_of_block HS8.out
          clear hb8 hla hcp HS7 HB7 HL7 KF7 y0 y1 y2 y3 y4 y5 y6 y7 y8 y9
          obtain ⟨y0, y1, y2, y3, y4, y5, y6, y7, y8, y9⟩ := sub_cells HS8.out
          go_wp2_with fail
          refine kbe.mono ?_
          rintro e w9 ⟨pa, pc, ea, ec, rfl, hrc, hb9, fp, fe⟩
          have HB9 : Hid (Below ks wr w9) := HB8.out.trans (hb9.mono (Nat.le_of_lt h8k))
          have HS9 : Hid (w9.heap[ks]? = some (.cells (subC (⟨2, (on : Int), qw, qp, qh, qC, qR⟩ : Sb) ca cc none 0 none 0) 27 (0, 0))) := by show _ = _; rw [hb9.block _ h8k]; exact HS8.out
          have HRC9 : Hid (RcAt w9 B pa ea) := hrc
          have HFR : Hid ((∀ g, blockOf pa = some g → w8.heap.size ≤ g) ∧ (∀ g, blockOf ea = some g → w8.heap.size ≤ g)) := ⟨fp, fe⟩
          have h9k : ks < w9.heap.size := lt_of_block HS9.out
          have HA10 : Hid (Below w9.heap.size w9 (w9.alloc (.cells (riceC B pa pc ea ec) 25))) := (Below.refl _ _).alloc (Nat.le_refl _) _
          have HR10 : Hid ((w9.alloc (.cells (riceC B pa pc ea ec) 25)).heap[w9.heap.size]? = some (.cells (riceC B pa pc ea ec) 25 (0, 0))) := heap_alloc_new _ _
          have HB10 : Hid (Below ks wr (w9.alloc (.cells (riceC B pa pc ea ec) 25))) := HB9.out.trans (HA10.out.mono (Nat.le_of_lt h9k))
          have HS10 : Hid ((w9.alloc (.cells (riceC B pa pc ea ec) 25)).heap[ks]? = some (.cells (subC (⟨2, (on : Int), qw, qp, qh, qC, qR⟩ : Sb) ca cc none 0 none 0) 27 (0, 0))) := by show _ = _; rw [HA10.out.block _ h9k]; exact HS9.out
          have HRC10 : Hid (RcAt (w9.alloc (.cells (riceC B pa pc ea ec) 25)) B pa ea) := HRC9.out.below HA10.out
          clear hrc hb9 fp fe kbe HB8 HS8 HB9 HS9 HRC9 HA10 y0 y1 y2 y3 y4 y5 y6 y7 y8 y9
          go_upto_region 26 with fail
          generalize hw10 : World.alloc _ _ = w10 at *
          clear hw10
          generalize hkr2 : w9.heap.size = kr at *
          clear hkr2
          obtain ⟨y0, y1, y2, y3, y4, y5, y6, y7, y8, y9⟩ := sub_cells HS10.out
          have r0 : w10.cell? ⟨kr, 0, none⟩ = some (.int .i64 B.m) := by rw [cell_of_row _ _ _ _ _ _ HR10.out]; rfl
          have r1 : w10.cell? ⟨kr, 1, none⟩ = some (.int .i64 B.o) := by rw [cell_of_row _ _ _ _ _ _ HR10.out]; rfl
          have r2 : w10.cell? ⟨kr, 2, none⟩ = some (.slice pa B.P.length pc) := by rw [cell_of_row _ _ _ _ _ _ HR10.out]; rfl
          have r3 : w10.cell? ⟨kr, 3, none⟩ = some (.slice ea B.E.length ec) := by rw [cell_of_row _ _ _ _ _ _ HR10.out]; rfl
          have fy6 : w10.frozen? ⟨ks, 6, none⟩ = false := by simp [World.frozen?, HS10.out]
          have fy7 : w10.frozen? ⟨ks, 7, none⟩ = false := by simp [World.frozen?, HS10.out]
          have fy8 : w10.frozen? ⟨ks, 8, none⟩ = false := by simp [World.frozen?, HS10.out]
          have fy9 : w10.frozen? ⟨ks, 9, none⟩ = false := by simp [World.frozen?, HS10.out]
          go_upto_region 28 with fail
          generalize hw11 : World.setCell _ _ _ = w11 at *
          have HST11 : Hid (Stays (only ks) w10 w11) := by
           show Stays (only ks) w10 w11
           rw [← hw11]
           exact st4_o _ _ _ _ _
          have HS11 : Hid (w11.heap[ks]? = some (.cells (subC s ca cc pa pc ea ec) 27 (0, 0))) := by
           show _ = _
           rw [← hw11, HSE.out _ _ _ _]
           rw [block_setCell _ _ _ _ _ _ (block_setCell _ _ _ _ _ _ (block_setCell _ _ _ _ _ _ (block_setCell _ _ _ _ _ _ HS10.out)))]
           rfl
          have HB11 : Hid (Below ks wr w11) := by
           show Below ks wr w11
           rw [← hw11]
           exact (((HB10.out.setCell (Nat.le_refl _) _).setCell (Nat.le_refl _) _).setCell (Nat.le_refl _) _).setCell (Nat.le_refl _) _
          have HUS : Hid (UpK ks pa B.P ∧ UpK ks ea B.E) := ⟨fun _ b hb => by have := HFR.out.1 b hb; omega, fun _ b hb => by have := HFR.out.2 b hb; omega⟩
          have HRC11 : Hid (RcAt w11 B pa ea) := ⟨ints_off HRC10.out.P HST11.out HUS.out.1.off, ints_off HRC10.out.E HST11.out HUS.out.2.off, HRC10.out.m1, HRC10.out.m2, HRC10.out.o1, HRC10.out.o2⟩
          have HSB11 : Hid (SbAt w11 s ca pa ea) := HSS.out w11 pa ea HB11.out HRC11.out
          clear hw11 HST11 HB10 HS10 HR10 HRC10 r0 r1 r2 r3 fy6 fy7 fy8 fy9 y0 y1 y2 y3 y4 y5 y6 y7 y8 y9
          obtain ⟨y0, y1, y2, y3, y4, y5, y6, y7, y8, y9⟩ := sub_cells HS11.out
          go_wp2_with fail
          refine (KB7.out w11 pa pc ea ec HB11.out HSB11.out).mono ?_
          rintro e w8b ⟨rfl, hb12⟩
          obtain ⟨w8, hw8⟩ : ∃ w8, w8 = w8b := ⟨_, rfl⟩
          subst hw8
          have HL8 := kQ12 (HLI.out.low (by rw [HKS.out]; exact HB11.out.trans (hb12.mono (Nat.le_of_lt (lt_of_block HS11.out)))))
          have HS8 : Hid (w8.heap[ks]? = some (.cells (subC s ca cc pa pc ea ec) 27 (0, 0))) := by show _ = _; rw [hb12.block _ (lt_of_block HS11.out)]; exact HS11.out
          have HSB8 : Hid (SbAt w8 s ca pa ea) := HSB11.out.below hb12
          have HUP8 : Hid (UpK kb pa s.R.P ∧ UpK kb ea s.R.E) := by
           rw [HSR.out]
           exact ⟨fun h0 b hb => by have := HUS.out.1 h0 b hb; omega, fun h0 b hb => by have := HUS.out.2 h0 b hb; omega⟩
          clear hb12 HB11 HS11 HSB11 KB7 HRC11 HFR y0 y1 y2 y3 y4 y5 y6 y7 y8 y9
          obtain ⟨q9, a1, a2, a3, a4, a5, a6, hbx⟩ := HL8.out.bs.box
          obtain ⟨z0, z1, z2, z3, z4, z5, z6, z7, z8, z9⟩ := sub_cells hbx
          have fz0 : w8.frozen? ⟨kb, 0, none⟩ = false := by simp [World.frozen?, hbx]
          have fz1 : w8.frozen? ⟨kb, 1, none⟩ = false := by simp [World.frozen?, hbx]
          have fz2 : w8.frozen? ⟨kb, 2, none⟩ = false := by simp [World.frozen?, hbx]
          have fz3 : w8.frozen? ⟨kb, 3, none⟩ = false := by simp [World.frozen?, hbx]
          have fz4 : w8.frozen? ⟨kb, 4, none⟩ = false := by simp [World.frozen?, hbx]
          have fz5 : w8.frozen? ⟨kb, 5, none⟩ = false := by simp [World.frozen?, hbx]
          have fz6 : w8.frozen? ⟨kb, 6, none⟩ = false := by simp [World.frozen?, hbx]
          have fz7 : w8.frozen? ⟨kb, 7, none⟩ = false := by simp [World.frozen?, hbx]
          have fz8 : w8.frozen? ⟨kb, 8, none⟩ = false := by simp [World.frozen?, hbx]
          have fz9 : w8.frozen? ⟨kb, 9, none⟩ = false := by simp [World.frozen?, hbx]
          obtain ⟨y0, y1, y2, y3, y4, y5, y6, y7, y8, y9⟩ := sub_cells HS8.out
          have HFI := HL8.out.take s nb (ca := ca) (cc := cc) (pa := pa) (pc := pc) (ea := ea) (ec := ec) HSB8.out HUQ.out HUP8.out.1 HUP8.out.2
          clear hbx
          go_wp2_with fail
          generalize hwf : World.setCell _ _ _ = wf at *
          have HFJ : Hid (LI w wA kb (some (s, nb)) (.int .i64 (nb : Int)) wf) := HFI
          clear hwf HFI z0 z1 z2 z3 z4 z5 z6 z7 z8 z9 y0 y1 y2 y3 y4 y5 y6 y7 y8 y9
          go_roundw
          case rel => exact ⟨j + 1, by omega, by go_num, by rw [HNX.out, HSTP.out]; exact HFJ.out⟩
          case measure => simp [intOf]; omega
         ·have HSTP : Hid (stS v l m (((cnL lv wst).take j).foldl (stS v l m) none) (⟨2, (on : Int), qw, qp, qh, qC, qR⟩ : Sb) = (((cnL lv wst).take j).foldl (stS v l m) none)) := by show _ = _; rw [h1]; unfold stS; rw [if_pos hva, HWI.out, HNB.out]; exact if_neg hnn
          clear h1 hva HNB
          go_upto_region 17 with fail
          generalize hw7 : World.alloc _ _ = w7 at *
          clear hw7
          generalize hks : wr.heap.size = ks at *
          have HKS : Hid (wr.heap.size = ks) := hks
          clear hks
          obtain ⟨y0, y1, y2, y3, y4, y5, y6, y7, y8, y9⟩ := sub_cells HS7.out
          go_wp2_with fail
          refine (KF7.out w7 HB7.out).mono ?_
          rintro e w8 ⟨la, lb, rfl, hla, hcp, hb8⟩
          have HB8 : Hid (Below ks wr w8) := HB7.out.trans (hb8.mono (Nat.le_of_lt (lt_of_block HS7.out)))
          have HS8 : Hid (w8.heap[ks]? = some (.cells (subC (⟨2, (on : Int), qw, qp, qh, qC, qR⟩ : Sb) ca cc none 0 none 0) 27 (0, 0))) := by show _ = _; rw [hb8.block _ (lt_of_block HS7.out)]; exact HS7.out
          have kbe := KBE.out w8 la lb hla hcp
          have h8k : ks < w8.heap.size := lt_of_block HS8.out
          clear hb8 hla hcp HS7 HB7 HL7 KF7 y0 y1 y2 y3 y4 y5 y6 y7 y8 y9
          obtain ⟨y0, y1, y2, y3, y4, y5, y6, y7, y8, y9⟩ := sub_cells HS8.out
          go_wp2_with fail
          refine kbe.mono ?_
          rintro e w9 ⟨pa, pc, ea, ec, rfl, hrc, hb9, fp, fe⟩
          have HB9 : Hid (Below ks wr w9) := HB8.out.trans (hb9.mono (Nat.le_of_lt h8k))
          have HS9 : Hid (w9.heap[ks]? = some (.cells (subC (⟨2, (on : Int), qw, qp, qh, qC, qR⟩ : Sb) ca cc none 0 none 0) 27 (0, 0))) := by show _ = _; rw [hb9.block _ h8k]; exact HS8.out
          have HRC9 : Hid (RcAt w9 B pa ea) := hrc
          have HFR : Hid ((∀ g, blockOf pa = some g → w8.heap.size ≤ g) ∧ (∀ g, blockOf ea = some g → w8.heap.size ≤ g)) := ⟨fp, fe⟩
          have h9k : ks < w9.heap.size := lt_of_block HS9.out
          have HA10 : Hid (Below w9.heap.size w9 (w9.alloc (.cells (riceC B pa pc ea ec) 25))) := (Below.refl _ _).alloc (Nat.le_refl _) _
          have HR10 : Hid ((w9.alloc (.cells (riceC B pa pc ea ec) 25)).heap[w9.heap.size]? = some (.cells (riceC B pa pc ea ec) 25 (0, 0))) := heap_alloc_new _ _
          have HB10 : Hid (Below ks wr (w9.alloc (.cells (riceC B pa pc ea ec) 25))) := HB9.out.trans (HA10.out.mono (Nat.le_of_lt h9k))
          have HS10 : Hid ((w9.alloc (.cells (riceC B pa pc ea ec) 25)).heap[ks]? = some (.cells (subC (⟨2, (on : Int), qw, qp, qh, qC, qR⟩ : Sb) ca cc none 0 none 0) 27 (0, 0))) := by show _ = _; rw [HA10.out.block _ h9k]; exact HS9.out
          have HRC10 : Hid (RcAt (w9.alloc (.cells (riceC B pa pc ea ec) 25)) B pa ea) := HRC9.out.below HA10.out
          clear hrc hb9 fp fe kbe HB8 HS8 HB9 HS9 HRC9 HA10 y0 y1 y2 y3 y4 y5 y6 y7 y8 y9
          go_upto_region 26 with fail
          generalize hw10 : World.alloc _ _ = w10 at *
          clear hw10
          generalize hkr2 : w9.heap.size = kr at *
          clear hkr2
          obtain ⟨y0, y1, y2, y3, y4, y5, y6, y7, y8, y9⟩ := sub_cells HS10.out
          have r0 : w10.cell? ⟨kr, 0, none⟩ = some (.int .i64 B.m) := by rw [cell_of_row _ _ _ _ _ _ HR10.out]; rfl
          have r1 : w10.cell? ⟨kr, 1, none⟩ = some (.int .i64 B.o) := by rw [cell_of_row _ _ _ _ _ _ HR10.out]; rfl
          have r2 : w10.cell? ⟨kr, 2, none⟩ = some (.slice pa B.P.length pc) := by rw [cell_of_row _ _ _ _ _ _ HR10.out]; rfl
          have r3 : w10.cell? ⟨kr, 3, none⟩ = some (.slice ea B.E.length ec) := by rw [cell_of_row _ _ _ _ _ _ HR10.out]; rfl
          have fy6 : w10.frozen? ⟨ks, 6, none⟩ = false := by simp [World.frozen?, HS10.out]
          have fy7 : w10.frozen? ⟨ks, 7, none⟩ = false := by simp [World.frozen?, HS10.out]
          have fy8 : w10.frozen? ⟨ks, 8, none⟩ = false := by simp [World.frozen?, HS10.out]
          have fy9 : w10.frozen? ⟨ks, 9, none⟩ = false := by simp [World.frozen?, HS10.out]
          go_upto_region 28 with fail
          generalize hw11 : World.setCell _ _ _ = w11 at *
          have HST11 : Hid (Stays (only ks) w10 w11) := by
           show Stays (only ks) w10 w11
           rw [← hw11]
           exact st4_o _ _ _ _ _
          have HS11 : Hid (w11.heap[ks]? = some (.cells (subC s ca cc pa pc ea ec) 27 (0, 0))) := by
           show _ = _
           rw [← hw11, HSE.out _ _ _ _]
           rw [block_setCell _ _ _ _ _ _ (block_setCell _ _ _ _ _ _ (block_setCell _ _ _ _ _ _ (block_setCell _ _ _ _ _ _ HS10.out)))]
           rfl
          have HB11 : Hid (Below ks wr w11) := by
           show Below ks wr w11
           rw [← hw11]
           exact (((HB10.out.setCell (Nat.le_refl _) _).setCell (Nat.le_refl _) _).setCell (Nat.le_refl _) _).setCell (Nat.le_refl _) _
          have HUS : Hid (UpK ks pa B.P ∧ UpK ks ea B.E) := ⟨fun _ b hb => by have := HFR.out.1 b hb; omega, fun _ b hb => by have := HFR.out.2 b hb; omega⟩
          have HRC11 : Hid (RcAt w11 B pa ea) := ⟨ints_off HRC10.out.P HST11.out HUS.out.1.off, ints_off HRC10.out.E HST11.out HUS.out.2.off, HRC10.out.m1, HRC10.out.m2, HRC10.out.o1, HRC10.out.o2⟩
          have HSB11 : Hid (SbAt w11 s ca pa ea) := HSS.out w11 pa ea HB11.out HRC11.out
          clear hw11 HST11 HB10 HS10 HR10 HRC10 r0 r1 r2 r3 fy6 fy7 fy8 fy9 y0 y1 y2 y3 y4 y5 y6 y7 y8 y9
          obtain ⟨y0, y1, y2, y3, y4, y5, y6, y7, y8, y9⟩ := sub_cells HS11.out
          go_wp2_with fail
          refine (KB7.out w11 pa pc ea ec HB11.out HSB11.out).mono ?_
          rintro e w8b ⟨rfl, hb12⟩
          obtain ⟨w8, hw8⟩ : ∃ w8, w8 = w8b := ⟨_, rfl⟩
          subst hw8
          have HL8 := kQ12 (HLI.out.low (by rw [HKS.out]; exact HB11.out.trans (hb12.mono (Nat.le_of_lt (lt_of_block HS11.out)))))
          have HS8 : Hid (w8.heap[ks]? = some (.cells (subC s ca cc pa pc ea ec) 27 (0, 0))) := by show _ = _; rw [hb12.block _ (lt_of_block HS11.out)]; exact HS11.out
          have HSB8 : Hid (SbAt w8 s ca pa ea) := HSB11.out.below hb12
          have HUP8 : Hid (UpK kb pa s.R.P ∧ UpK kb ea s.R.E) := by
           rw [HSR.out]
           exact ⟨fun h0 b hb => by have := HUS.out.1 h0 b hb; omega, fun h0 b hb => by have := HUS.out.2 h0 b hb; omega⟩
          clear hb12 HB11 HS11 HSB11 KB7 HRC11 HFR y0 y1 y2 y3 y4 y5 y6 y7 y8 y9
          go_wp2_with fail
          go_roundw
          case rel => exact ⟨j + 1, by omega, by go_num, by rw [HNX.out, HSTP.out]; exact HL8.out⟩
          case measure => simp [intOf]; omega
       ·have hml := HML.out
        have HVA : Hid (vaB (⟨2, (on : Int), qw, qp, qh, qC, qR⟩ : Sb) l = false) := by show _ = _; unfold vaB; rw [if_neg (show ¬ (2 : Int) = 0 by decide), if_neg (show ¬ (2 : Int) = 1 by decide)]; exact decide_eq_false ho
        have HSTP : Hid (stS v l m (((cnL lv wst).take j).foldl (stS v l m) none) (⟨2, (on : Int), qw, qp, qh, qC, qR⟩ : Sb) = (((cnL lv wst).take j).foldl (stS v l m) none)) := by show _ = _; unfold stS; rw [HVA.out]; rfl
        have KF7 : Hid (∀ wx, Below wr.heap.size wr wx → Calls Tryz.prog 33 #[.int .i64 (on : Int), .slice ma m.length mc] wx fun e w' => ∃ la lb, e = .returned (.tuple #[.slice la 0 lb, .int .i64 1]) ∧ Below wx.heap.size wx w') := fun wx hb => by
         have k := xfixed_cap (on : Int) m ma mc wx (HIM.out.below hb)
         have e : fixR (on : Int) m = none := by unfold fixR; rw [if_neg (by omega)]
         rw [e] at k
         exact k.mono fun e w' hh => by
          obtain ⟨la, lb, h1, _, _, h4⟩ := hh
          exact ⟨la, lb, h1, h4⟩
        clear ho hml KBT
        go_upto_region 17 with fail
        generalize hw7 : World.alloc _ _ = w7 at *
        clear hw7
        generalize hks : wr.heap.size = ks at *
        have HKS : Hid (wr.heap.size = ks) := hks
        clear hks
        obtain ⟨y0, y1, y2, y3, y4, y5, y6, y7, y8, y9⟩ := sub_cells HS7.out
        go_wp2_with fail
        refine (KF7.out w7 HB7.out).mono ?_
        rintro e w8 ⟨la, lb, rfl, hb8⟩
        have HL8 := kQ12 (HL7.out.low hb8)
        have HS8 : Hid (w8.heap[ks]? = some (.cells (subC (⟨2, (on : Int), qw, qp, qh, qC, qR⟩ : Sb) ca cc none 0 none 0) 27 (0, 0))) := by show _ = _; rw [hb8.block _ (lt_of_block HS7.out)]; exact HS7.out
        clear hb8 HL7 HS7 HB7 KF7 y0 y1 y2 y3 y4 y5 y6 y7 y8 y9
        obtain ⟨y0, y1, y2, y3, y4, y5, y6, y7, y8, y9⟩ := sub_cells HS8.out
        go_wp2_with fail
        go_roundw
        case rel => exact ⟨j + 1, by omega, by go_num, by rw [HNX.out, HSTP.out]; exact HL8.out⟩
        case measure => simp [intOf]; omega
      ·have HOC : Hid (q.o = (q.C.length : Int)) := by
        rcases HTR.out with rfl | rfl | ⟨o, ho, rfl⟩ | ⟨C, hC, rfl⟩
        ·cases hk
        ·cases hk
        ·cases hk
        ·rfl
       have HMY : Hid (mayB q.C q.h = true) := by
        rcases HTR.out with rfl | rfl | ⟨o, ho, rfl⟩ | ⟨C, hC, rfl⟩
        ·cases hk
        ·cases hk
        ·cases hk
        ·show mayB C 5 = true
         rcases List.mem_cons.1 hC with rfl | hC
         ·decide
         rcases List.mem_cons.1 hC with rfl | hC
         ·decide
         rcases List.mem_cons.1 hC with rfl | hC
         ·decide
         cases hC
       obtain ⟨qk, qo, qw, qp, qh, qC, qR⟩ := q
       have hk' : qk = 3 := hk
       clear hk
       subst hk'
       dsimp only at *
       have ho4' := HO4.out
       obtain ⟨on, hqo⟩ : ∃ on : Nat, qo = (on : Int) := ⟨qo.toNat, by omega⟩
       clear ho4'
       subst hqo
       have ho4 := HO4.out
       by_cases ho : (on : Int) ≤ (l.length : Int)
       ·have hml := HML.out
        have HVA : Hid (vaB (⟨3, (on : Int), qw, qp, qh, qC, qR⟩ : Sb) l = true) := by show _ = _; unfold vaB; rw [if_neg (show ¬ (3 : Int) = 0 by decide), if_neg (show ¬ (3 : Int) = 1 by decide)]; exact decide_eq_true ho
        have hva := HVA.out
        have HON : Hid (((on : Int)).toNat = on) := by show _ = _; omega
        have HEO := HTE.out (⟨3, (on : Int), qw, qp, qh, qC, qR⟩ : Sb) HTR.out (by first | exact Or.inl rfl | exact Or.inr rfl)
        obtain ⟨s, hs_⟩ : ∃ s, s = wiS (⟨3, (on : Int), qw, qp, qh, qC, qR⟩ : Sb) m := ⟨_, rfl⟩
        obtain ⟨B, hB_⟩ : ∃ B, B = brN l.length on (resN (⟨3, (on : Int), qw, qp, qh, qC, qR⟩ : Sb) m) := ⟨_, rfl⟩
        have HWI : Hid (wiS (⟨3, (on : Int), qw, qp, qh, qC, qR⟩ : Sb) m = s) := hs_.symm
        have HSR : Hid (s.R = B) := by show _ = _; rw [hs_, hB_]; unfold wiS; rw [if_neg (show ¬ ((3 : Int) = 0 ∨ (3 : Int) = 1) by decide), hml, HON.out]
        have HSE : Hid (∀ pa pc ea ec, subC s ca cc pa pc ea ec = #[.int .i64 (3 : Int), .int .i64 (on : Int), .int .i64 qw, .int .i64 qp, .int .i64 qh, .slice ca qC.length cc, .int .i64 B.m, .int .i64 B.o, .slice pa B.P.length pc, .slice ea B.E.length ec]) := fun pa pc ea ec => by
         obtain ⟨e1, e2, e3, e4, e5, e6⟩ := wiS_k (⟨3, (on : Int), qw, qp, qh, qC, qR⟩ : Sb) m
         rw [← hs_] at e1 e2 e3 e4 e5 e6
         unfold subC
         rw [e1, e2, e3, e4, e5, e6, HSR.out]
        have HSS : Hid (∀ wx pa ea, Below wr.heap.size wr wx → RcAt wx B pa ea → SbAt wx s ca pa ea) := fun wx pa ea hb hr => by
         obtain ⟨e1, e2, e3, e4, e5, e6⟩ := wiS_k (⟨3, (on : Int), qw, qp, qh, qC, qR⟩ : Sb) m
         rw [← hs_] at e1 e2 e3 e4 e5 e6
         exact ⟨by rw [e6]; exact HCI.out.below hb, by rw [HSR.out]; exact hr, by rw [e1]; exact HI64.out.1.1, by rw [e2]; exact HI64.out.1.2.1, by rw [e3]; exact HI64.out.1.2.2, by rw [e4]; exact HI64.out.2.1, by rw [e5]; exact HI64.out.2.2⟩
        have HUQ : Hid (UpK kb ca s.C) := by rw [hs_, (wiS_k (⟨3, (on : Int), qw, qp, qh, qC, qR⟩ : Sb) m).2.2.2.2.2]; exact HUQ.out
        have KF7 : Hid (∀ wx, Below wr.heap.size wr wx → Calls Tryz.prog 34 #[.slice ca qC.length cc, .int .i64 qh, .slice ma m.length mc] wx fun e w' => ∃ la lb, e = .returned (.tuple #[.slice la (resN (⟨3, (on : Int), qw, qp, qh, qC, qR⟩ : Sb) m).length lb, .int .i64 0]) ∧ IntsAt w' la (resN (⟨3, (on : Int), qw, qp, qh, qC, qR⟩ : Sb) m) ∧ ((resN (⟨3, (on : Int), qw, qp, qh, qC, qR⟩ : Sb) m).length ≤ lb ∧ (la = none → lb = 0)) ∧ Below wx.heap.size wx w') := fun wx hb => by
         have k := xlpc_cap qC m qh ca ma cc mc wx (HCI.out.below hb) (HIM.out.below hb)
         have e : lpcR qC qh m = some (resN (⟨3, (on : Int), qw, qp, qh, qC, qR⟩ : Sb) m) := by unfold lpcR resN; rw [if_pos ⟨HMY.out, by have := HOC.out; omega⟩, if_neg (show ¬ (3 : Int) = 2 by decide), HOC.out, Int.toNat_natCast]
         rw [e] at k
         exact k
        have KBE : Hid (∀ wx la lb, IntsAt wx la (resN (⟨3, (on : Int), qw, qp, qh, qC, qR⟩ : Sb) m) → ((resN (⟨3, (on : Int), qw, qp, qh, qC, qR⟩ : Sb) m).length ≤ lb ∧ (la = none → lb = 0)) → Calls Tryz.prog 35 #[.int .i64 (l.length : Int), .int .i64 (on : Int), .slice la (resN (⟨3, (on : Int), qw, qp, qh, qC, qR⟩ : Sb) m).length lb] wx fun e w' => ∃ pa pc ea ec, e = .returned (.tuple #[riceV B pa pc ea ec, .int .i64 (ordS (resN (⟨3, (on : Int), qw, qp, qh, qC, qR⟩ : Sb) m) l.length on (bestK (ordS (resN (⟨3, (on : Int), qw, qp, qh, qC, qR⟩ : Sb) m) l.length on) (fnO l.length on)) : Int)]) ∧ RcAt w' B pa ea ∧ Below wx.heap.size wx w' ∧ (∀ g, blockOf pa = some g → wx.heap.size ≤ g) ∧ (∀ g, blockOf ea = some g → wx.heap.size ≤ g)) := fun wx la lb h1 h2 => by
         have hf := fnO_best l.length on hn1 hn2 (by omega) (by omega)
         rw [hB_]
         exact xbest_main l.length (fnO l.length on) on (fnO_cut l.length on hn1 hn2 (by omega) (by omega)) hf.1 hf.2.2 (resN (⟨3, (on : Int), qw, qp, qh, qC, qR⟩ : Sb) m) HEO.1 la lb h2.1 h2.2 wx h1 (by rw [HEO.2, hml, HON.out])
        have KB7 : Hid (∀ wx (pa : Option Addr) (pc : Nat) (ea : Option Addr) (ec : Nat), Below wr.heap.size wr wx → SbAt wx s ca pa ea → Calls Tryz.prog 36 #[subV s ca cc pa pc ea ec, .int .i64 v, .slice lo l.length lc] wx fun en w' => en = .returned (.int .i64 ((subB s v l).length : Int)) ∧ Below wx.heap.size wx w') := fun wx pa pc ea ec hb hsb => by
         have k := KBT.out s pa pc ea ec wx hs_ ho hsb hb
         rw [hva] at k
         exact k
        clear HVA hs_ hB_ KBT ho
        clear HEO hml
        generalize ordS (resN (⟨3, (on : Int), qw, qp, qh, qC, qR⟩ : Sb) m) l.length on (bestK (ordS (resN (⟨3, (on : Int), qw, qp, qh, qC, qR⟩ : Sb) m) l.length on) (fnO l.length on)) = nB at *
        generalize (resN (⟨3, (on : Int), qw, qp, qh, qC, qR⟩ : Sb) m) = RS_ at *
        have HNBB : Hid ((subB s v l).length = (subB s v l).length) := rfl
        generalize hnb : (subB s v l).length = nb at *
        have HNB : Hid ((subB s v l).length = nb) := hnb
        clear hnb HNBB
        have HB_ := HL7.out.bs
        rcases HB_ with ⟨h1, hs, _⟩ | ⟨q0, n0, _, _, _, _, _, _, h1, hs, _⟩
        ·subst hs
         have HSTP : Hid (stS v l m (((cnL lv wst).take j).foldl (stS v l m) none) (⟨3, (on : Int), qw, qp, qh, qC, qR⟩ : Sb) = some (s, nb)) := by show _ = _; rw [h1]; unfold stS; rw [if_pos hva, HWI.out, HNB.out]
         clear h1 hva HNB
         go_upto_region 17 with fail
         generalize hw7 : World.alloc _ _ = w7 at *
         clear hw7
         generalize hks : wr.heap.size = ks at *
         have HKS : Hid (wr.heap.size = ks) := hks
         clear hks
         obtain ⟨y0, y1, y2, y3, y4, y5, y6, y7, y8, y9⟩ := sub_cells HS7.out
         go_wp2_with fail
         refine (KF7.out w7 HB7.out).mono ?_
         rintro e w8 ⟨la, lb, rfl, hla, hcp, hb8⟩
         have HB8 : Hid (Below ks wr w8) := HB7.out.trans (hb8.mono (Nat.le_of_lt (lt_of_block HS7.out)))
         have HS8 : Hid (w8.heap[ks]? = some (.cells (subC (⟨3, (on : Int), qw, qp, qh, qC, qR⟩ : Sb) ca cc none 0 none 0) 27 (0, 0))) := by show _ = _; rw [hb8.block _ (lt_of_block HS7.out)]; exact HS7.out
         have kbe := KBE.out w8 la lb hla hcp
         have h8k : ks < w8.heap.size := lt_of_block HS8.out
         clear hb8 hla hcp HS7 HB7 HL7 KF7 y0 y1 y2 y3 y4 y5 y6 y7 y8 y9
         obtain ⟨y0, y1, y2, y3, y4, y5, y6, y7, y8, y9⟩ := sub_cells HS8.out
         go_wp2_with fail
         refine kbe.mono ?_
         rintro e w9 ⟨pa, pc, ea, ec, rfl, hrc, hb9, fp, fe⟩
         have HB9 : Hid (Below ks wr w9) := HB8.out.trans (hb9.mono (Nat.le_of_lt h8k))
         have HS9 : Hid (w9.heap[ks]? = some (.cells (subC (⟨3, (on : Int), qw, qp, qh, qC, qR⟩ : Sb) ca cc none 0 none 0) 27 (0, 0))) := by show _ = _; rw [hb9.block _ h8k]; exact HS8.out
         have HRC9 : Hid (RcAt w9 B pa ea) := hrc
         have HFR : Hid ((∀ g, blockOf pa = some g → w8.heap.size ≤ g) ∧ (∀ g, blockOf ea = some g → w8.heap.size ≤ g)) := ⟨fp, fe⟩
         have h9k : ks < w9.heap.size := lt_of_block HS9.out
         have HA10 : Hid (Below w9.heap.size w9 (w9.alloc (.cells (riceC B pa pc ea ec) 25))) := (Below.refl _ _).alloc (Nat.le_refl _) _
         have HR10 : Hid ((w9.alloc (.cells (riceC B pa pc ea ec) 25)).heap[w9.heap.size]? = some (.cells (riceC B pa pc ea ec) 25 (0, 0))) := heap_alloc_new _ _
         have HB10 : Hid (Below ks wr (w9.alloc (.cells (riceC B pa pc ea ec) 25))) := HB9.out.trans (HA10.out.mono (Nat.le_of_lt h9k))
         have HS10 : Hid ((w9.alloc (.cells (riceC B pa pc ea ec) 25)).heap[ks]? = some (.cells (subC (⟨3, (on : Int), qw, qp, qh, qC, qR⟩ : Sb) ca cc none 0 none 0) 27 (0, 0))) := by show _ = _; rw [HA10.out.block _ h9k]; exact HS9.out
         have HRC10 : Hid (RcAt (w9.alloc (.cells (riceC B pa pc ea ec) 25)) B pa ea) := HRC9.out.below HA10.out
         clear hrc hb9 fp fe kbe HB8 HS8 HB9 HS9 HRC9 HA10 y0 y1 y2 y3 y4 y5 y6 y7 y8 y9
         go_upto_region 26 with fail
         generalize hw10 : World.alloc _ _ = w10 at *
         clear hw10
         generalize hkr2 : w9.heap.size = kr at *
         clear hkr2
         obtain ⟨y0, y1, y2, y3, y4, y5, y6, y7, y8, y9⟩ := sub_cells HS10.out
         have r0 : w10.cell? ⟨kr, 0, none⟩ = some (.int .i64 B.m) := by rw [cell_of_row _ _ _ _ _ _ HR10.out]; rfl
         have r1 : w10.cell? ⟨kr, 1, none⟩ = some (.int .i64 B.o) := by rw [cell_of_row _ _ _ _ _ _ HR10.out]; rfl
         have r2 : w10.cell? ⟨kr, 2, none⟩ = some (.slice pa B.P.length pc) := by rw [cell_of_row _ _ _ _ _ _ HR10.out]; rfl
         have r3 : w10.cell? ⟨kr, 3, none⟩ = some (.slice ea B.E.length ec) := by rw [cell_of_row _ _ _ _ _ _ HR10.out]; rfl
         have fy6 : w10.frozen? ⟨ks, 6, none⟩ = false := by simp [World.frozen?, HS10.out]
         have fy7 : w10.frozen? ⟨ks, 7, none⟩ = false := by simp [World.frozen?, HS10.out]
         have fy8 : w10.frozen? ⟨ks, 8, none⟩ = false := by simp [World.frozen?, HS10.out]
         have fy9 : w10.frozen? ⟨ks, 9, none⟩ = false := by simp [World.frozen?, HS10.out]
         go_upto_region 28 with fail
         generalize hw11 : World.setCell _ _ _ = w11 at *
         have HST11 : Hid (Stays (only ks) w10 w11) := by
          show Stays (only ks) w10 w11
          rw [← hw11]
          exact st4_o _ _ _ _ _
         have HS11 : Hid (w11.heap[ks]? = some (.cells (subC s ca cc pa pc ea ec) 27 (0, 0))) := by
          show _ = _
          rw [← hw11, HSE.out _ _ _ _]
          rw [block_setCell _ _ _ _ _ _ (block_setCell _ _ _ _ _ _ (block_setCell _ _ _ _ _ _ (block_setCell _ _ _ _ _ _ HS10.out)))]
          rfl
         have HB11 : Hid (Below ks wr w11) := by
          show Below ks wr w11
          rw [← hw11]
          exact (((HB10.out.setCell (Nat.le_refl _) _).setCell (Nat.le_refl _) _).setCell (Nat.le_refl _) _).setCell (Nat.le_refl _) _
         have HUS : Hid (UpK ks pa B.P ∧ UpK ks ea B.E) := ⟨fun _ b hb => by have := HFR.out.1 b hb; omega, fun _ b hb => by have := HFR.out.2 b hb; omega⟩
         have HRC11 : Hid (RcAt w11 B pa ea) := ⟨ints_off HRC10.out.P HST11.out HUS.out.1.off, ints_off HRC10.out.E HST11.out HUS.out.2.off, HRC10.out.m1, HRC10.out.m2, HRC10.out.o1, HRC10.out.o2⟩
         have HSB11 : Hid (SbAt w11 s ca pa ea) := HSS.out w11 pa ea HB11.out HRC11.out
         clear hw11 HST11 HB10 HS10 HR10 HRC10 r0 r1 r2 r3 fy6 fy7 fy8 fy9 y0 y1 y2 y3 y4 y5 y6 y7 y8 y9
         obtain ⟨y0, y1, y2, y3, y4, y5, y6, y7, y8, y9⟩ := sub_cells HS11.out
         go_wp2_with fail
         refine (KB7.out w11 pa pc ea ec HB11.out HSB11.out).mono ?_
         rintro e w8b ⟨rfl, hb12⟩
         obtain ⟨w8, hw8⟩ : ∃ w8, w8 = w8b := ⟨_, rfl⟩
         subst hw8
         have HL8 := kQ12 (HLI.out.low (by rw [HKS.out]; exact HB11.out.trans (hb12.mono (Nat.le_of_lt (lt_of_block HS11.out)))))
         have HS8 : Hid (w8.heap[ks]? = some (.cells (subC s ca cc pa pc ea ec) 27 (0, 0))) := by show _ = _; rw [hb12.block _ (lt_of_block HS11.out)]; exact HS11.out
         have HSB8 : Hid (SbAt w8 s ca pa ea) := HSB11.out.below hb12
         have HUP8 : Hid (UpK kb pa s.R.P ∧ UpK kb ea s.R.E) := by
          rw [HSR.out]
          exact ⟨fun h0 b hb => by have := HUS.out.1 h0 b hb; omega, fun h0 b hb => by have := HUS.out.2 h0 b hb; omega⟩
         clear hb12 HB11 HS11 HSB11 KB7 HRC11 HFR y0 y1 y2 y3 y4 y5 y6 y7 y8 y9
         obtain ⟨q9, a1, a2, a3, a4, a5, a6, hbx⟩ := HL8.out.bs.box
         obtain ⟨z0, z1, z2, z3, z4, z5, z6, z7, z8, z9⟩ := sub_cells hbx
         have fz0 : w8.frozen? ⟨kb, 0, none⟩ = false := by simp [World.frozen?, hbx]
         have fz1 : w8.frozen? ⟨kb, 1, none⟩ = false := by simp [World.frozen?, hbx]
         have fz2 : w8.frozen? ⟨kb, 2, none⟩ = false := by simp [World.frozen?, hbx]
         have fz3 : w8.frozen? ⟨kb, 3, none⟩ = false := by simp [World.frozen?, hbx]
         have fz4 : w8.frozen? ⟨kb, 4, none⟩ = false := by simp [World.frozen?, hbx]
         have fz5 : w8.frozen? ⟨kb, 5, none⟩ = false := by simp [World.frozen?, hbx]
         have fz6 : w8.frozen? ⟨kb, 6, none⟩ = false := by simp [World.frozen?, hbx]
         have fz7 : w8.frozen? ⟨kb, 7, none⟩ = false := by simp [World.frozen?, hbx]
         have fz8 : w8.frozen? ⟨kb, 8, none⟩ = false := by simp [World.frozen?, hbx]
         have fz9 : w8.frozen? ⟨kb, 9, none⟩ = false := by simp [World.frozen?, hbx]
         obtain ⟨y0, y1, y2, y3, y4, y5, y6, y7, y8, y9⟩ := sub_cells HS8.out
         have HFI := HL8.out.take s nb (ca := ca) (cc := cc) (pa := pa) (pc := pc) (ea := ea) (ec := ec) HSB8.out HUQ.out HUP8.out.1 HUP8.out.2
         clear hbx
         go_wp2_with fail
         generalize hwf : World.setCell _ _ _ = wf at *
         have HFJ : Hid (LI w wA kb (some (s, nb)) (.int .i64 (nb : Int)) wf) := HFI
         clear hwf HFI z0 z1 z2 z3 z4 z5 z6 z7 z8 z9 y0 y1 y2 y3 y4 y5 y6 y7 y8 y9
         go_roundw
         case rel => exact ⟨j + 1, by omega, by go_num, by rw [HNX.out, HSTP.out]; exact HFJ.out⟩
         case measure => simp [intOf]; omega
        ·subst hs
         by_cases hnn : nb < n0
         ·have HSTP : Hid (stS v l m (((cnL lv wst).take j).foldl (stS v l m) none) (⟨3, (on : Int), qw, qp, qh, qC, qR⟩ : Sb) = some (s, nb)) := by show _ = _; rw [h1]; unfold stS; rw [if_pos hva, HWI.out, HNB.out]; exact if_pos hnn
          clear h1 hva HNB
          go_upto_region 17 with fail
          generalize hw7 : World.alloc _ _ = w7 at *
          clear hw7
          generalize hks : wr.heap.size = ks at *
          have HKS : Hid (wr.heap.size = ks) := hks
          clear hks
          obtain ⟨y0, y1, y2, y3, y4, y5, y6, y7, y8, y9⟩ := sub_cells HS7.out
          go_wp2_with fail
          refine (KF7.out w7 HB7.out).mono ?_
          rintro e w8 ⟨la, lb, rfl, hla, hcp, hb8⟩
          have HB8 : Hid (Below ks wr w8) := HB7.out.trans (hb8.mono (Nat.le_of_lt (lt_of_block HS7.out)))
          have HS8 : Hid (w8.heap[ks]? = some (.cells (subC (⟨3, (on : Int), qw, qp, qh, qC, qR⟩ : Sb) ca cc none 0 none 0) 27 (0, 0))) := by show _ = _; rw [hb8.block _ (lt_of_block HS7.out)]; exact HS7.out
          have kbe := KBE.out w8 la lb hla hcp
          have h8k : ks < w8.heap.size := lt_of_block HS8.out
          clear hb8 hla hcp HS7 HB7 HL7 KF7 y0 y1 y2 y3 y4 y5 y6 y7 y8 y9
          obtain ⟨y0, y1, y2, y3, y4, y5, y6, y7, y8, y9⟩ := sub_cells HS8.out
          go_wp2_with fail
          refine kbe.mono ?_
          rintro e w9 ⟨pa, pc, ea, ec, rfl, hrc, hb9, fp, fe⟩
          have HB9 : Hid (Below ks wr w9) := HB8.out.trans (hb9.mono (Nat.le_of_lt h8k))
          have HS9 : Hid (w9.heap[ks]? = some (.cells (subC (⟨3, (on : Int), qw, qp, qh, qC, qR⟩ : Sb) ca cc none 0 none 0) 27 (0, 0))) := by show _ = _; rw [hb9.block _ h8k]; exact HS8.out
          have HRC9 : Hid (RcAt w9 B pa ea) := hrc
          have HFR : Hid ((∀ g, blockOf pa = some g → w8.heap.size ≤ g) ∧ (∀ g, blockOf ea = some g → w8.heap.size ≤ g)) := ⟨fp, fe⟩
          have h9k : ks < w9.heap.size := lt_of_block HS9.out
          have HA10 : Hid (Below w9.heap.size w9 (w9.alloc (.cells (riceC B pa pc ea ec) 25))) := (Below.refl _ _).alloc (Nat.le_refl _) _
          have HR10 : Hid ((w9.alloc (.cells (riceC B pa pc ea ec) 25)).heap[w9.heap.size]? = some (.cells (riceC B pa pc ea ec) 25 (0, 0))) := heap_alloc_new _ _
          have HB10 : Hid (Below ks wr (w9.alloc (.cells (riceC B pa pc ea ec) 25))) := HB9.out.trans (HA10.out.mono (Nat.le_of_lt h9k))
          have HS10 : Hid ((w9.alloc (.cells (riceC B pa pc ea ec) 25)).heap[ks]? = some (.cells (subC (⟨3, (on : Int), qw, qp, qh, qC, qR⟩ : Sb) ca cc none 0 none 0) 27 (0, 0))) := by show _ = _; rw [HA10.out.block _ h9k]; exact HS9.out
          have HRC10 : Hid (RcAt (w9.alloc (.cells (riceC B pa pc ea ec) 25)) B pa ea) := HRC9.out.below HA10.out
          clear hrc hb9 fp fe kbe HB8 HS8 HB9 HS9 HRC9 HA10 y0 y1 y2 y3 y4 y5 y6 y7 y8 y9
          go_upto_region 26 with fail
          generalize hw10 : World.alloc _ _ = w10 at *
          clear hw10
          generalize hkr2 : w9.heap.size = kr at *
          clear hkr2
          obtain ⟨y0, y1, y2, y3, y4, y5, y6, y7, y8, y9⟩ := sub_cells HS10.out
          have r0 : w10.cell? ⟨kr, 0, none⟩ = some (.int .i64 B.m) := by rw [cell_of_row _ _ _ _ _ _ HR10.out]; rfl
          have r1 : w10.cell? ⟨kr, 1, none⟩ = some (.int .i64 B.o) := by rw [cell_of_row _ _ _ _ _ _ HR10.out]; rfl
          have r2 : w10.cell? ⟨kr, 2, none⟩ = some (.slice pa B.P.length pc) := by rw [cell_of_row _ _ _ _ _ _ HR10.out]; rfl
          have r3 : w10.cell? ⟨kr, 3, none⟩ = some (.slice ea B.E.length ec) := by rw [cell_of_row _ _ _ _ _ _ HR10.out]; rfl
          have fy6 : w10.frozen? ⟨ks, 6, none⟩ = false := by simp [World.frozen?, HS10.out]
          have fy7 : w10.frozen? ⟨ks, 7, none⟩ = false := by simp [World.frozen?, HS10.out]
          have fy8 : w10.frozen? ⟨ks, 8, none⟩ = false := by simp [World.frozen?, HS10.out]
          have fy9 : w10.frozen? ⟨ks, 9, none⟩ = false := by simp [World.frozen?, HS10.out]
          go_upto_region 28 with fail
          generalize hw11 : World.setCell _ _ _ = w11 at *
          have HST11 : Hid (Stays (only ks) w10 w11) := by
           show Stays (only ks) w10 w11
           rw [← hw11]
           exact st4_o _ _ _ _ _
          have HS11 : Hid (w11.heap[ks]? = some (.cells (subC s ca cc pa pc ea ec) 27 (0, 0))) := by
           show _ = _
           rw [← hw11, HSE.out _ _ _ _]
           rw [block_setCell _ _ _ _ _ _ (block_setCell _ _ _ _ _ _ (block_setCell _ _ _ _ _ _ (block_setCell _ _ _ _ _ _ HS10.out)))]
           rfl
          have HB11 : Hid (Below ks wr w11) := by
           show Below ks wr w11
           rw [← hw11]
           exact (((HB10.out.setCell (Nat.le_refl _) _).setCell (Nat.le_refl _) _).setCell (Nat.le_refl _) _).setCell (Nat.le_refl _) _
          have HUS : Hid (UpK ks pa B.P ∧ UpK ks ea B.E) := ⟨fun _ b hb => by have := HFR.out.1 b hb; omega, fun _ b hb => by have := HFR.out.2 b hb; omega⟩
          have HRC11 : Hid (RcAt w11 B pa ea) := ⟨ints_off HRC10.out.P HST11.out HUS.out.1.off, ints_off HRC10.out.E HST11.out HUS.out.2.off, HRC10.out.m1, HRC10.out.m2, HRC10.out.o1, HRC10.out.o2⟩
          have HSB11 : Hid (SbAt w11 s ca pa ea) := HSS.out w11 pa ea HB11.out HRC11.out
          clear hw11 HST11 HB10 HS10 HR10 HRC10 r0 r1 r2 r3 fy6 fy7 fy8 fy9 y0 y1 y2 y3 y4 y5 y6 y7 y8 y9
          obtain ⟨y0, y1, y2, y3, y4, y5, y6, y7, y8, y9⟩ := sub_cells HS11.out
          go_wp2_with fail
          refine (KB7.out w11 pa pc ea ec HB11.out HSB11.out).mono ?_
          rintro e w8b ⟨rfl, hb12⟩
          obtain ⟨w8, hw8⟩ : ∃ w8, w8 = w8b := ⟨_, rfl⟩
          subst hw8
          have HL8 := kQ12 (HLI.out.low (by rw [HKS.out]; exact HB11.out.trans (hb12.mono (Nat.le_of_lt (lt_of_block HS11.out)))))
          have HS8 : Hid (w8.heap[ks]? = some (.cells (subC s ca cc pa pc ea ec) 27 (0, 0))) := by show _ = _; rw [hb12.block _ (lt_of_block HS11.out)]; exact HS11.out
          have HSB8 : Hid (SbAt w8 s ca pa ea) := HSB11.out.below hb12
          have HUP8 : Hid (UpK kb pa s.R.P ∧ UpK kb ea s.R.E) := by
           rw [HSR.out]
           exact ⟨fun h0 b hb => by have := HUS.out.1 h0 b hb; omega, fun h0 b hb => by have := HUS.out.2 h0 b hb; omega⟩
          clear hb12 HB11 HS11 HSB11 KB7 HRC11 HFR y0 y1 y2 y3 y4 y5 y6 y7 y8 y9
          obtain ⟨q9, a1, a2, a3, a4, a5, a6, hbx⟩ := HL8.out.bs.box
          obtain ⟨z0, z1, z2, z3, z4, z5, z6, z7, z8, z9⟩ := sub_cells hbx
          have fz0 : w8.frozen? ⟨kb, 0, none⟩ = false := by simp [World.frozen?, hbx]
          have fz1 : w8.frozen? ⟨kb, 1, none⟩ = false := by simp [World.frozen?, hbx]
          have fz2 : w8.frozen? ⟨kb, 2, none⟩ = false := by simp [World.frozen?, hbx]
          have fz3 : w8.frozen? ⟨kb, 3, none⟩ = false := by simp [World.frozen?, hbx]
          have fz4 : w8.frozen? ⟨kb, 4, none⟩ = false := by simp [World.frozen?, hbx]
          have fz5 : w8.frozen? ⟨kb, 5, none⟩ = false := by simp [World.frozen?, hbx]
          have fz6 : w8.frozen? ⟨kb, 6, none⟩ = false := by simp [World.frozen?, hbx]
          have fz7 : w8.frozen? ⟨kb, 7, none⟩ = false := by simp [World.frozen?, hbx]
          have fz8 : w8.frozen? ⟨kb, 8, none⟩ = false := by simp [World.frozen?, hbx]
          have fz9 : w8.frozen? ⟨kb, 9, none⟩ = false := by simp [World.frozen?, hbx]
          obtain ⟨y0, y1, y2, y3, y4, y5, y6, y7, y8, y9⟩ := sub_cells HS8.out
          have HFI := HL8.out.take s nb (ca := ca) (cc := cc) (pa := pa) (pc := pc) (ea := ea) (ec := ec) HSB8.out HUQ.out HUP8.out.1 HUP8.out.2
          clear hbx
          go_wp2_with fail
          generalize hwf : World.setCell _ _ _ = wf at *
          have HFJ : Hid (LI w wA kb (some (s, nb)) (.int .i64 (nb : Int)) wf) := HFI
          clear hwf HFI z0 z1 z2 z3 z4 z5 z6 z7 z8 z9 y0 y1 y2 y3 y4 y5 y6 y7 y8 y9
          go_roundw
          case rel => exact ⟨j + 1, by omega, by go_num, by rw [HNX.out, HSTP.out]; exact HFJ.out⟩
          case measure => simp [intOf]; omega
         ·have HSTP : Hid (stS v l m (((cnL lv wst).take j).foldl (stS v l m) none) (⟨3, (on : Int), qw, qp, qh, qC, qR⟩ : Sb) = (((cnL lv wst).take j).foldl (stS v l m) none)) := by show _ = _; rw [h1]; unfold stS; rw [if_pos hva, HWI.out, HNB.out]; exact if_neg hnn
          clear h1 hva HNB
          go_upto_region 17 with fail
          generalize hw7 : World.alloc _ _ = w7 at *
          clear hw7
          generalize hks : wr.heap.size = ks at *
          have HKS : Hid (wr.heap.size = ks) := hks
          clear hks
          obtain ⟨y0, y1, y2, y3, y4, y5, y6, y7, y8, y9⟩ := sub_cells HS7.out
          go_wp2_with fail
          refine (KF7.out w7 HB7.out).mono ?_
          rintro e w8 ⟨la, lb, rfl, hla, hcp, hb8⟩
          have HB8 : Hid (Below ks wr w8) := HB7.out.trans (hb8.mono (Nat.le_of_lt (lt_of_block HS7.out)))
          have HS8 : Hid (w8.heap[ks]? = some (.cells (subC (⟨3, (on : Int), qw, qp, qh, qC, qR⟩ : Sb) ca cc none 0 none 0) 27 (0, 0))) := by show _ = _; rw [hb8.block _ (lt_of_block HS7.out)]; exact HS7.out
          have kbe := KBE.out w8 la lb hla hcp
          have h8k : ks < w8.heap.size := lt_of_block HS8.out
          clear hb8 hla hcp HS7 HB7 HL7 KF7 y0 y1 y2 y3 y4 y5 y6 y7 y8 y9
          obtain ⟨y0, y1, y2, y3, y4, y5, y6, y7, y8, y9⟩ := sub_cells HS8.out
          go_wp2_with fail
          refine kbe.mono ?_
          rintro e w9 ⟨pa, pc, ea, ec, rfl, hrc, hb9, fp, fe⟩
          have HB9 : Hid (Below ks wr w9) := HB8.out.trans (hb9.mono (Nat.le_of_lt h8k))
          have HS9 : Hid (w9.heap[ks]? = some (.cells (subC (⟨3, (on : Int), qw, qp, qh, qC, qR⟩ : Sb) ca cc none 0 none 0) 27 (0, 0))) := by show _ = _; rw [hb9.block _ h8k]; exact HS8.out
          have HRC9 : Hid (RcAt w9 B pa ea) := hrc
          have HFR : Hid ((∀ g, blockOf pa = some g → w8.heap.size ≤ g) ∧ (∀ g, blockOf ea = some g → w8.heap.size ≤ g)) := ⟨fp, fe⟩
          have h9k : ks < w9.heap.size := lt_of_block HS9.out
          have HA10 : Hid (Below w9.heap.size w9 (w9.alloc (.cells (riceC B pa pc ea ec) 25))) := (Below.refl _ _).alloc (Nat.le_refl _) _
          have HR10 : Hid ((w9.alloc (.cells (riceC B pa pc ea ec) 25)).heap[w9.heap.size]? = some (.cells (riceC B pa pc ea ec) 25 (0, 0))) := heap_alloc_new _ _
          have HB10 : Hid (Below ks wr (w9.alloc (.cells (riceC B pa pc ea ec) 25))) := HB9.out.trans (HA10.out.mono (Nat.le_of_lt h9k))
          have HS10 : Hid ((w9.alloc (.cells (riceC B pa pc ea ec) 25)).heap[ks]? = some (.cells (subC (⟨3, (on : Int), qw, qp, qh, qC, qR⟩ : Sb) ca cc none 0 none 0) 27 (0, 0))) := by show _ = _; rw [HA10.out.block _ h9k]; exact HS9.out
          have HRC10 : Hid (RcAt (w9.alloc (.cells (riceC B pa pc ea ec) 25)) B pa ea) := HRC9.out.below HA10.out
          clear hrc hb9 fp fe kbe HB8 HS8 HB9 HS9 HRC9 HA10 y0 y1 y2 y3 y4 y5 y6 y7 y8 y9
          go_upto_region 26 with fail
          generalize hw10 : World.alloc _ _ = w10 at *
          clear hw10
          generalize hkr2 : w9.heap.size = kr at *
          clear hkr2
          obtain ⟨y0, y1, y2, y3, y4, y5, y6, y7, y8, y9⟩ := sub_cells HS10.out
          have r0 : w10.cell? ⟨kr, 0, none⟩ = some (.int .i64 B.m) := by rw [cell_of_row _ _ _ _ _ _ HR10.out]; rfl
          have r1 : w10.cell? ⟨kr, 1, none⟩ = some (.int .i64 B.o) := by rw [cell_of_row _ _ _ _ _ _ HR10.out]; rfl
          have r2 : w10.cell? ⟨kr, 2, none⟩ = some (.slice pa B.P.length pc) := by rw [cell_of_row _ _ _ _ _ _ HR10.out]; rfl
          have r3 : w10.cell? ⟨kr, 3, none⟩ = some (.slice ea B.E.length ec) := by rw [cell_of_row _ _ _ _ _ _ HR10.out]; rfl
          have fy6 : w10.frozen? ⟨ks, 6, none⟩ = false := by simp [World.frozen?, HS10.out]
          have fy7 : w10.frozen? ⟨ks, 7, none⟩ = false := by simp [World.frozen?, HS10.out]
          have fy8 : w10.frozen? ⟨ks, 8, none⟩ = false := by simp [World.frozen?, HS10.out]
          have fy9 : w10.frozen? ⟨ks, 9, none⟩ = false := by simp [World.frozen?, HS10.out]
          go_upto_region 28 with fail
          generalize hw11 : World.setCell _ _ _ = w11 at *
          have HST11 : Hid (Stays (only ks) w10 w11) := by
           show Stays (only ks) w10 w11
           rw [← hw11]
           exact st4_o _ _ _ _ _
          have HS11 : Hid (w11.heap[ks]? = some (.cells (subC s ca cc pa pc ea ec) 27 (0, 0))) := by
           show _ = _
           rw [← hw11, HSE.out _ _ _ _]
           rw [block_setCell _ _ _ _ _ _ (block_setCell _ _ _ _ _ _ (block_setCell _ _ _ _ _ _ (block_setCell _ _ _ _ _ _ HS10.out)))]
           rfl
          have HB11 : Hid (Below ks wr w11) := by
           show Below ks wr w11
           rw [← hw11]
           exact (((HB10.out.setCell (Nat.le_refl _) _).setCell (Nat.le_refl _) _).setCell (Nat.le_refl _) _).setCell (Nat.le_refl _) _
          have HUS : Hid (UpK ks pa B.P ∧ UpK ks ea B.E) := ⟨fun _ b hb => by have := HFR.out.1 b hb; omega, fun _ b hb => by have := HFR.out.2 b hb; omega⟩
          have HRC11 : Hid (RcAt w11 B pa ea) := ⟨ints_off HRC10.out.P HST11.out HUS.out.1.off, ints_off HRC10.out.E HST11.out HUS.out.2.off, HRC10.out.m1, HRC10.out.m2, HRC10.out.o1, HRC10.out.o2⟩
          have HSB11 : Hid (SbAt w11 s ca pa ea) := HSS.out w11 pa ea HB11.out HRC11.out
          clear hw11 HST11 HB10 HS10 HR10 HRC10 r0 r1 r2 r3 fy6 fy7 fy8 fy9 y0 y1 y2 y3 y4 y5 y6 y7 y8 y9
          obtain ⟨y0, y1, y2, y3, y4, y5, y6, y7, y8, y9⟩ := sub_cells HS11.out
          go_wp2_with fail
          refine (KB7.out w11 pa pc ea ec HB11.out HSB11.out).mono ?_
          rintro e w8b ⟨rfl, hb12⟩
          obtain ⟨w8, hw8⟩ : ∃ w8, w8 = w8b := ⟨_, rfl⟩
          subst hw8
          have HL8 := kQ12 (HLI.out.low (by rw [HKS.out]; exact HB11.out.trans (hb12.mono (Nat.le_of_lt (lt_of_block HS11.out)))))
          have HS8 : Hid (w8.heap[ks]? = some (.cells (subC s ca cc pa pc ea ec) 27 (0, 0))) := by show _ = _; rw [hb12.block _ (lt_of_block HS11.out)]; exact HS11.out
          have HSB8 : Hid (SbAt w8 s ca pa ea) := HSB11.out.below hb12
          have HUP8 : Hid (UpK kb pa s.R.P ∧ UpK kb ea s.R.E) := by
           rw [HSR.out]
           exact ⟨fun h0 b hb => by have := HUS.out.1 h0 b hb; omega, fun h0 b hb => by have := HUS.out.2 h0 b hb; omega⟩
          clear hb12 HB11 HS11 HSB11 KB7 HRC11 HFR y0 y1 y2 y3 y4 y5 y6 y7 y8 y9
          go_wp2_with fail
          go_roundw
          case rel => exact ⟨j + 1, by omega, by go_num, by rw [HNX.out, HSTP.out]; exact HL8.out⟩
          case measure => simp [intOf]; omega
       ·have hml := HML.out
        have HVA : Hid (vaB (⟨3, (on : Int), qw, qp, qh, qC, qR⟩ : Sb) l = false) := by show _ = _; unfold vaB; rw [if_neg (show ¬ (3 : Int) = 0 by decide), if_neg (show ¬ (3 : Int) = 1 by decide)]; exact decide_eq_false ho
        have HSTP : Hid (stS v l m (((cnL lv wst).take j).foldl (stS v l m) none) (⟨3, (on : Int), qw, qp, qh, qC, qR⟩ : Sb) = (((cnL lv wst).take j).foldl (stS v l m) none)) := by show _ = _; unfold stS; rw [HVA.out]; rfl
        have KF7 : Hid (∀ wx, Below wr.heap.size wr wx → Calls Tryz.prog 34 #[.slice ca qC.length cc, .int .i64 qh, .slice ma m.length mc] wx fun e w' => ∃ la lb, e = .returned (.tuple #[.slice la 0 lb, .int .i64 1]) ∧ Below wx.heap.size wx w') := fun wx hb => by
         have k := xlpc_cap qC m qh ca ma cc mc wx (HCI.out.below hb) (HIM.out.below hb)
         have e : lpcR qC qh m = none := by unfold lpcR; rw [if_neg (fun h => by have := h.2; have := HOC.out; omega)]
         rw [e] at k
         exact k.mono fun e w' hh => by
          obtain ⟨la, lb, h1, _, _, h4⟩ := hh
          exact ⟨la, lb, h1, h4⟩
        clear ho hml KBT
        go_upto_region 17 with fail
        generalize hw7 : World.alloc _ _ = w7 at *
        clear hw7
        generalize hks : wr.heap.size = ks at *
        have HKS : Hid (wr.heap.size = ks) := hks
        clear hks
        obtain ⟨y0, y1, y2, y3, y4, y5, y6, y7, y8, y9⟩ := sub_cells HS7.out
        go_wp2_with fail
        refine (KF7.out w7 HB7.out).mono ?_
        rintro e w8 ⟨la, lb, rfl, hb8⟩
        have HL8 := kQ12 (HL7.out.low hb8)
        have HS8 : Hid (w8.heap[ks]? = some (.cells (subC (⟨3, (on : Int), qw, qp, qh, qC, qR⟩ : Sb) ca cc none 0 none 0) 27 (0, 0))) := by show _ = _; rw [hb8.block _ (lt_of_block HS7.out)]; exact HS7.out
        clear hb8 HL7 HS7 HB7 KF7 y0 y1 y2 y3 y4 y5 y6 y7 y8 y9
        obtain ⟨y0, y1, y2, y3, y4, y5, y6, y7, y8, y9⟩ := sub_cells HS8.out
        go_wp2_with fail
        go_roundw
        case rel => exact ⟨j + 1, by omega, by go_num, by rw [HNX.out, HSTP.out]; exact HL8.out⟩
        case measure => simp [intOf]; omega
    ·have hjN : j = N := by omega
     have hacc : (((cnL lv wst).take j).foldl (stS v l m) none) = sbR lv v l := by rw [HSB.out, hjN, HNN.out, List.take_length]
     rw [hacc] at HLI
     obtain ⟨a, ha⟩ := sbR_some lv v l
     have HBS := HLI.out.bs
     rcases HBS with ⟨h1, _⟩ | ⟨q, n, ca, cc, pa, pc, ea, ec, h1, hs, hbx, hsb, o1, o2, o3⟩
     ·rw [ha] at h1; cases h1
     have HSQ : Hid (sbR lv v l = some (q, n)) := h1
     subst hs
     have HSA : Hid (SbAt wr q ca pa ea ∧ OffK w.heap.size ca q.C ∧ OffK w.heap.size pa q.R.P ∧ OffK w.heap.size ea q.R.E) := ⟨hsb, o1.off' hkk, o2.off' hkk, o3.off' hkk⟩
     have HRB : Hid (wr.heap[w.heap.size]? = some (.cells (subC ⟨0, 0, 0, 0, 0, [], R00⟩ none 0 none 0 none 0) 27 (0, 0))) := HLI.out.rb
     have HBW : Hid (Below w.heap.size w wr) := HLI.out.below HTA.out.below
     obtain ⟨x0, x1, x2, x3, x4, x5, x6, x7, x8, x9⟩ := sub_cells hbx
     have hrb := HRB.out
     have u0x : wr.cell? ⟨w.heap.size, 0, none⟩ = some (.int .i64 0) := by rw [cell_of_row _ _ _ _ _ _ hrb]; rfl
     have fu0 : wr.frozen? ⟨w.heap.size, 0, none⟩ = false := by simp [World.frozen?, hrb]
     have u1x : wr.cell? ⟨w.heap.size, 1, none⟩ = some (.int .i64 0) := by rw [cell_of_row _ _ _ _ _ _ hrb]; rfl
     have fu1 : wr.frozen? ⟨w.heap.size, 1, none⟩ = false := by simp [World.frozen?, hrb]
     have u2x : wr.cell? ⟨w.heap.size, 2, none⟩ = some (.int .i64 0) := by rw [cell_of_row _ _ _ _ _ _ hrb]; rfl
     have fu2 : wr.frozen? ⟨w.heap.size, 2, none⟩ = false := by simp [World.frozen?, hrb]
     have u3x : wr.cell? ⟨w.heap.size, 3, none⟩ = some (.int .i64 0) := by rw [cell_of_row _ _ _ _ _ _ hrb]; rfl
     have fu3 : wr.frozen? ⟨w.heap.size, 3, none⟩ = false := by simp [World.frozen?, hrb]
     have u4x : wr.cell? ⟨w.heap.size, 4, none⟩ = some (.int .i64 0) := by rw [cell_of_row _ _ _ _ _ _ hrb]; rfl
     have fu4 : wr.frozen? ⟨w.heap.size, 4, none⟩ = false := by simp [World.frozen?, hrb]
     have u5x : wr.cell? ⟨w.heap.size, 5, none⟩ = some (.slice none 0 0) := by rw [cell_of_row _ _ _ _ _ _ hrb]; rfl
     have fu5 : wr.frozen? ⟨w.heap.size, 5, none⟩ = false := by simp [World.frozen?, hrb]
     have u6x : wr.cell? ⟨w.heap.size, 6, none⟩ = some (.int .i64 0) := by rw [cell_of_row _ _ _ _ _ _ hrb]; rfl
     have fu6 : wr.frozen? ⟨w.heap.size, 6, none⟩ = false := by simp [World.frozen?, hrb]
     have u7x : wr.cell? ⟨w.heap.size, 7, none⟩ = some (.int .i64 0) := by rw [cell_of_row _ _ _ _ _ _ hrb]; rfl
     have fu7 : wr.frozen? ⟨w.heap.size, 7, none⟩ = false := by simp [World.frozen?, hrb]
     have u8x : wr.cell? ⟨w.heap.size, 8, none⟩ = some (.slice none 0 0) := by rw [cell_of_row _ _ _ _ _ _ hrb]; rfl
     have fu8 : wr.frozen? ⟨w.heap.size, 8, none⟩ = false := by simp [World.frozen?, hrb]
     have u9x : wr.cell? ⟨w.heap.size, 9, none⟩ = some (.slice none 0 0) := by rw [cell_of_row _ _ _ _ _ _ hrb]; rfl
     have fu9 : wr.frozen? ⟨w.heap.size, 9, none⟩ = false := by simp [World.frozen?, hrb]
     have hkn : ¬ kb = w.heap.size := by omega
     clear hsb o1 o2 o3 hbx hrb ha h1 hacc HLI hjN
     go_wp2_with fail
     generalize hwf : World.setCell _ _ _ = wf
     have hrow : wf.heap[w.heap.size]? = some (.cells (subC q ca cc pa pc ea ec) 27 (0, 0)) := by rw [← hwf]; exact set10_a _ _ _ _ _ _ _ _ _ _ _ HRB.out
     have hst : Stays (only w.heap.size) wr wf := by rw [← hwf]; exact set10_c _ _ _ _ _ _ _ _ _ _ _ _ _ (Or.inl rfl) (Stays.refl _ _)
     have hbel : Below w.heap.size w wf := by rw [← hwf]; exact set10_b _ _ _ _ _ _ _ _ _ _ _ _ (Nat.le_refl _) HBW.out
     refine bodyPost_ret (v := .tuple #[.agg (subC q ca cc pa pc ea ec), .int .i64 ((n : Nat) : Int)]) ?_ rfl ⟨q, n, ca, cc, pa, pc, ea, ec, HSQ.out, rfl, sb_off HSA.out.1 hst HSA.out.2.1 HSA.out.2.2.1 HSA.out.2.2.2, hbel⟩
     rw [results_two rfl]
     have hld := run_loadVar_row (P := Tryz.prog) (wf) (w.heap.size) 27 27 (subC q ca cc pa pc ea ec) (0, 0) _ hrow Tryz.underlying27 rfl info_Sub
     simp [asAddr, Result.andThen, hld]
end Go.Proofs.YthgpleelpeacjaaGreatDoor
