/- Own text: the document's Build (aiff). -/
import Derived.Test.YtaepgjheknkojaaGreatR7parse3
import Derived.Test.YtaepgjheknkojaaGreatP7doc
import Derived.Test.YtaepgjheknkojaaGreatQ7awake
import Derived.Test.YtaepgjheknkojaaGreatR6lay2
import Derived.Test.YtaepgjheknkojaaGreatP5pack2
import Derived.Test.YtaepgjheknkojaaGreatG5x
import Derived.Test.YtaepgjheknkojaaGreatG42x
import Derived.Test.YtaepgjheknkojaaGreatG32x
import Derived.Deep.CutRange
import Derived.Deep.RegionWith
import Derived.Deep.RegionHeld3
namespace Go.Proofs.YtaepgjheknkojaaGreat
open Go.RowKit
set_option linter.unusedSimpArgs false
set_option linter.unusedVariables false

theorem sameB_eq {p q : Pcm} (h : sameB p q = true) : p = q := by
 unfold sameB at h
 simp only [Bool.and_eq_true, decide_eq_true_eq] at h
 obtain ⟨a, b, c, d⟩ := h
 cases p
 cases q
 simp only at a b c d
 subst a
 subst b
 subst c
 subst d
 rfl
theorem text_eq {a b : ByteArray} (h : (a.toList == b.toList) = true) : a = b := by
 have h := eq_of_beq h
 rw [ByteArray.toList_eq, ByteArray.toList_eq] at h
 cases a
 cases b
 congr
 exact Array.toList_inj.1 h
theorem chkB_eq {a b : Chk} (h : chkB a b = true) : a = b := by
 unfold chkB at h
 simp only [Bool.and_eq_true] at h
 obtain ⟨h1, h2, h3⟩ := h
 have e1 := text_eq h1
 have e2 := text_eq h2
 have e3 := eq_of_beq h3
 cases a
 cases b
 simp only at e1 e2 e3
 subst e1
 subst e2
 subst e3
 rfl
theorem sameC_eq : ∀ {l m : List Chk}, sameC l m = true → l = m
 | [], [], _ => rfl
 | a :: s, b :: t, h => by
  have h' := Bool.and_eq_true_iff.1 (show (chkB a b && sameC s t) = true from h)
  rw [chkB_eq h'.1, sameC_eq h'.2]
 | [], _ :: _, h => by cases h
 | _ :: _, [], h => by cases h
theorem sameW_eq {f g : ByteArray} {l m : List Chk} (h : sameW f l g m = true) : f = g ∧ l = m := by
 have h' := Bool.and_eq_true_iff.1 h
 exact ⟨text_eq h'.1, sameC_eq h'.2⟩
/-- Build's boxes of its arguments, and what lay before. -/
structure Jd (w0 : World) (p : Pcm) (po : Option Addr) (pc : Nat) (f : ByteArray) (l : List Chk) (ao : Option Addr) (cap : Nat) (w : World) : Prop where
 pb : PB w0.heap.size p po pc w
 wb : WB (w0.heap.size + 1) f l ao cap w
 below : Below w0.heap.size w0 w
theorem Jd.next {w0 w w1 : World} {p : Pcm} {po : Option Addr} {pc : Nat} {f : ByteArray} {l : List Chk} {ao : Option Addr} {cap : Nat} (h : Jd w0 p po pc f l ao cap w) (hB : Below w.heap.size w w1) : Jd w0 p po pc f l ao cap w1 := ⟨h.pb.next hB, h.wb.next hB, h.below.trans (hB.mono h.below.size)⟩
theorem Jd.new {w : World} {p : Pcm} {po : Option Addr} {f : ByteArray} {l : List Chk} {ao : Option Addr} (hr : RowsAt w po p.pl) (hl : ChksAt w ao l) (pc cap : Nat) : Jd w p po pc f l ao cap ((w.alloc (.cells (pcmC p po pc) 24)).alloc (.cells (waveC f l ao cap) 27)) := by
 refine ⟨(PB.new hr pc).next (belA _ _), ?_, (belA _ _).trans ((belA _ _).mono (belA _ _).size)⟩
 have h := WB.new (f := f) (hl.below (belA w (.cells (pcmC p po pc) 24))) cap
 rw [show (w.alloc (.cells (pcmC p po pc) 24)).heap.size = w.heap.size + 1 from by simp] at h
 exact h
def dE (f : ByteArray) (l : List Chk) : Int := comE (cmB l) (dK f)
def dC (l : List Chk) : Int := (findN l commT).2
theorem dL_len (p : Pcm) (f : ByteArray) (l : List Chk) : (dL p f l).length = l.length := by
 unfold dL filL
 split
 ·split
  ·rfl
  ·rw [List.length_set]
 ·rfl

set_option maxRecDepth 20000 in
set_option maxHeartbeats 6400000 in
theorem r7build_spec (p : Pcm) (po : Option Addr) (pc : Nat) (f : ByteArray) (l : List Chk) (ao : Option Addr) (cap : Nat) (w : World) (hr : RowsAt w po p.pl) (hl : ChksAt w ao l) (hll : l.length ≤ 3500000000000) (hft : FairT l) (hfc : fitsN 2 p = 0 → (∀ (i : Nat) (c : Chk), (dL p f l)[i]? = some c → FairC c) ∧ (layL (dL p f l) true).length ≤ 40000000000000) (hfz : f.size ≤ 40000000000000) :
  Calls Tryz.prog 12 #[pcmV p po pc, .agg (waveC f l ao cap)] w fun e w' => e = .returned (.tuple #[.string (b7T p f l), .int .i64 (b7E p f l)]) ∧ Below w.heap.size w w' := by
 have HJ0 : Hid (Jd w p po pc f l ao cap ((w.alloc (.cells (pcmC p po pc) 24)).alloc (.cells (waveC f l ao cap) 27))) := Jd.new hr hl pc cap
 have HLL : Hid (l.length ≤ 3500000000000 ∧ f.size ≤ 40000000000000) := ⟨hll, hfz⟩
 have HFT : Hid (FairT l) := hft
 have HFC0 : Hid (fitsN 2 p = 0 → (∀ (i : Nat) (c : Chk), (dL p f l)[i]? = some c → FairC c) ∧ (layL (dL p f l) true).length ≤ 40000000000000) := hfc
 have kf := rfits_spec 2 p po pc ((w.alloc (.cells (pcmC p po pc) 24)).alloc (.cells (waveC f l ao cap) 27)) HJ0.out.pb.rows
 have x0 := HJ0.out.pb.p 0 _ rfl
 have x1 := HJ0.out.pb.p 1 _ rfl
 have x2 := HJ0.out.pb.p 2 _ rfl
 have x3 := HJ0.out.pb.p 3 _ rfl
 clear hr hl hll hfc hfz hft
 go_enter Tryz.func12, Tryz.ntmps12
 go_wp2_with fail
 refine kf.mono ?_
 rintro e w2 ⟨rfl, hB2⟩
 have HJ2 : Hid (Jd w p po pc f l ao cap w2) := HJ0.out.next hB2
 clear kf hB2 HJ0 x0 x1 x2 x3
 by_cases h0 : fitsN 2 p = 0
 ·have HN60 : Hid (¬ DocOk p f l → b7E p f l = 60 ∧ b7T p f l = ⟨#[]⟩) := doc_not h0
  have HYES : Hid (DocOk p f l → b7E p f l = 0 ∧ b7T p f l = dS p f l) := doc_back
  have HPS : Hid (∀ big, (packN p big false).size ≤ 33554432) := fun big => pack_size p h0 big false
  have HFC : Hid ((∀ (i : Nat) (c : Chk), (dL p f l)[i]? = some c → FairC c) ∧ (layL (dL p f l) true).length ≤ 40000000000000) := HFC0.out h0
  rw [h0]
  clear h0 HFC0
  have y1 := HJ2.out.wb.p 1 _ rfl
  have k1 : Calls Tryz.prog 19 #[.slice ao l.length cap, .string ⟨#[67, 79, 77, 77]⟩] w2 fun e w' => e = .returned (.tuple #[.int .i64 (findN l commT).1, .int .i64 (findN l commT).2]) ∧ w' = w2 := r7find_spec l commT ao cap w2 HJ2.out.wb.chks (by have := HLL.out.1; omega)
  go_wp2_with fail
  refine k1.mono ?_
  rintro e w3 ⟨rfl, hw3⟩
  rw [hw3]
  clear k1 hw3 w3 y1
  cases hn : (findN l commT).2 != 1
  ·cases hz : ((f.size : Int) != 4)
   ·have hn1 : (findN l commT).2 = 1 := by simpa using hn
    have hz4 : f.size = 4 := by
     have : (f.size : Int) = 4 := by simpa using hz
     omega
    rcases findN_cases l commT with ⟨_, q2, _⟩ | ⟨i, c, hc, q2, _, _⟩
    ·rw [q2] at hn1
     cases hn1
    ·have HCC : Hid (dC l = 1 ∧ f.size = 4) := ⟨hn1, hz4⟩
     have hcm : cmB l = c.body := by
      unfold cmB
      rw [q2, atC_get _ _ _ hc]
     have hil := (List.getElem?_eq_some_iff.1 hc).1
     have HCB : Hid (c.body.size ≤ 100000000000000) := (HFT.out c (List.mem_of_getElem? hc)).2
     have hzl := HLL.out.1
     have y0 := HJ2.out.wb.p 0 _ rfl
     have y1 := HJ2.out.wb.p 1 _ rfl
     obtain ⟨b, off, hao, hcs⟩ := HJ2.out.wb.chks.lies (by omega)
     subst hao
     have HIC : Hid (l[i]? = some c) := hc
     have HX1 : Hid (w2.cell? ⟨b, off + i * 3 + 1, none⟩ = some (.string c.body)) := (hcs i c hc).2.1
     have s0 : w2.cell? ⟨b, off + i * 3 + 1, none⟩ = some (.string c.body) := HX1.out
     have HCE : Hid (dE f l = comE c.body (dK f)) := by
      show _ = _
      unfold dE
      rw [hcm]
     have HDX : Hid (dX f l = comR c.body (dK f)) := by
      show _ = _
      unfold dX
      rw [hcm]
     have hfk : (f.toList == [65, 73, 70, 67]) = dK f := by unfold dK; rw [aifc_list]
     have KS : Hid (∀ wx, Calls Tryz.prog 20 #[.string c.body, .bool (dK f)] wx fun e w' => e = .returned (.tuple #[.agg (comC (comR c.body (dK f))), .int .i64 (comE c.body (dK f))]) ∧ Below wx.heap.size wx w') := fun wx => r7comm_spec c.body (dK f) wx (by have := HCB.out; omega)
     rw [q2]
     clear hc q2 hcm hcs hn1 hz4
     generalize (findN l commT).2 = C2 at *
     generalize comR c.body (dK f) = X at *
     generalize comE c.body (dK f) = E at *
     generalize dK f = FK at *
     have HSS : Hid (∀ wx, Below w2.heap.size w2 wx → wx.cell? ⟨w.heap.size + 1, 1, none⟩ = some (.slice (some ⟨b, off, none⟩) l.length cap) ∧ wx.cell? ⟨w.heap.size + 1, 0, none⟩ = some (.string f) ∧ wx.cell? ⟨b, off + i * 3 + 1, none⟩ = some (.string c.body)) := fun wx hx => ⟨(HJ2.out.next hx).wb.p 1 _ rfl, (HJ2.out.next hx).wb.p 0 _ rfl, by
      obtain ⟨b', off', e', hcs⟩ := (HJ2.out.next hx).wb.chks.lies (by omega)
      cases e'
      exact (hcs i c HIC.out).2.1⟩
     go_upto_region 7 with fail
     clear s0 y0 y1 hn hz
     go_cut [10, 9] from 41 to 53 (fun u v wx => u = Value.int .i64 E ∧ ∃ Q, v = Value.pointer (some ⟨Q, 0, none⟩) ∧ Jd w p po pc f l (some ⟨b, off, none⟩) cap wx ∧ Box Q (comC X) 51 wx)
     case first =>
      refine wp_region_held_drew (S := fun wx => Below w2.heap.size w2 wx) (by kernel_rfl) (belD _) (fun hS => ?_)
      refine wpAnyH_take (i := 0) (v := .pointer (some ⟨w.heap.size + 1, 1, none⟩)) rfl (by kernel_rfl) (by kernel_rfl) (by kernel_rfl) (fun _ _ _ h => h) (Or.inl ⟨by rfl, fun w hSw => by obtain ⟨s1, s2, s3⟩ := HSS.out _ hSw; go_simp⟩) hS ?_
      simp only [Act.put, List.getElem_toArray, List.getElem_cons_succ, List.getElem_cons_zero, List.setIfInBounds_toArray, List.set_cons_zero, List.set_cons_succ]
      refine wpAnyH_take (i := 1) (v := .slice (some ⟨b, off, none⟩) l.length cap) rfl (by kernel_rfl) (by kernel_rfl) (by kernel_rfl) (fun _ _ _ h => h) (Or.inl ⟨by rfl, fun w hSw => by obtain ⟨s1, s2, s3⟩ := HSS.out _ hSw; go_simp⟩) hS ?_
      simp only [Act.put, List.getElem_toArray, List.getElem_cons_succ, List.getElem_cons_zero, List.setIfInBounds_toArray, List.set_cons_zero, List.set_cons_succ]
      refine wpAnyH_take (i := 2) (v := .int .i64 (i : Int)) rfl (by kernel_rfl) (by kernel_rfl) (by kernel_rfl) (fun _ _ _ h => h) (Or.inl ⟨by rfl, fun w hSw => by obtain ⟨s1, s2, s3⟩ := HSS.out _ hSw; go_simp⟩) hS ?_
      simp only [Act.put, List.getElem_toArray, List.getElem_cons_succ, List.getElem_cons_zero, List.setIfInBounds_toArray, List.set_cons_zero, List.set_cons_succ]
      refine wpAnyH_take (i := 3) (v := .pointer (some ⟨b, off + i * 3, none⟩)) rfl (by kernel_rfl) (by kernel_rfl) (by kernel_rfl) (fun _ _ _ h => h) (Or.inl ⟨by rfl, fun w hSw => by obtain ⟨s1, s2, s3⟩ := HSS.out _ hSw; go_simp⟩) hS ?_
      simp only [Act.put, List.getElem_toArray, List.getElem_cons_succ, List.getElem_cons_zero, List.setIfInBounds_toArray, List.set_cons_zero, List.set_cons_succ]
      refine wpAnyH_take (i := 4) (v := .pointer (some ⟨b, off + i * 3 + 1, none⟩)) rfl (by kernel_rfl) (by kernel_rfl) (by kernel_rfl) (fun _ _ _ h => h) (Or.inl ⟨by rfl, fun w hSw => by obtain ⟨s1, s2, s3⟩ := HSS.out _ hSw; go_simp⟩) hS ?_
      simp only [Act.put, List.getElem_toArray, List.getElem_cons_succ, List.getElem_cons_zero, List.setIfInBounds_toArray, List.set_cons_zero, List.set_cons_succ]
      refine wpAnyH_take (i := 5) (v := .string c.body) rfl (by kernel_rfl) (by kernel_rfl) (by kernel_rfl) (fun _ _ _ h => h) (Or.inl ⟨by rfl, fun w hSw => by obtain ⟨s1, s2, s3⟩ := HSS.out _ hSw; go_simp⟩) hS ?_
      simp only [Act.put, List.getElem_toArray, List.getElem_cons_succ, List.getElem_cons_zero, List.setIfInBounds_toArray, List.set_cons_zero, List.set_cons_succ]
      refine wpAnyH_take (i := 6) (v := .pointer (some ⟨w.heap.size + 1, 0, none⟩)) rfl (by kernel_rfl) (by kernel_rfl) (by kernel_rfl) (fun _ _ _ h => h) (Or.inl ⟨by rfl, fun w hSw => by obtain ⟨s1, s2, s3⟩ := HSS.out _ hSw; go_simp⟩) hS ?_
      simp only [Act.put, List.getElem_toArray, List.getElem_cons_succ, List.getElem_cons_zero, List.setIfInBounds_toArray, List.set_cons_zero, List.set_cons_succ]
      refine wpAnyH_take (i := 7) (v := .string f) rfl (by kernel_rfl) (by kernel_rfl) (by kernel_rfl) (fun _ _ _ h => h) (Or.inl ⟨by rfl, fun w hSw => by obtain ⟨s1, s2, s3⟩ := HSS.out _ hSw; go_simp⟩) hS ?_
      simp only [Act.put, List.getElem_toArray, List.getElem_cons_succ, List.getElem_cons_zero, List.setIfInBounds_toArray, List.set_cons_zero, List.set_cons_succ]
      refine wpAnyH_take (i := 8) (v := .bool FK) rfl (by kernel_rfl) (by kernel_rfl) (by kernel_rfl) (fun _ _ _ h => h) (Or.inl ⟨by rfl, fun w hSw => by obtain ⟨s1, s2, s3⟩ := HSS.out _ hSw; go_simp⟩) hS ?_
      simp only [Act.put, List.getElem_toArray, List.getElem_cons_succ, List.getElem_cons_zero, List.setIfInBounds_toArray, List.set_cons_zero, List.set_cons_succ]
      refine wpAnyH_ready (rs := [9, 13]) (by kernel_rfl) (by simp) ?_
      refine AllReadyH.cons rfl (fun K hK => ?_) (AllReadyH.cons rfl (fun K hK => ?_) AllReadyH.nil)
      ·go_simp
       refine (KS.out _).mono ?_
       rintro e w5 ⟨rfl, hB5⟩
       have HJ5 : Hid (Jd w p po pc f l (some ⟨b, off, none⟩) cap w5 ∧ Below w2.heap.size w2 w5) := ⟨(HJ2.out.next (belD _)).next hB5, below_on (belD _) hB5⟩
       refine hK.out _ _ HJ5.out.2 (fun hS5 => ?_)
       clear hK K
       refine wpAnyH_take (i := 10) (v := .tuple #[.agg #[.int .i64 X.rate, .int .i64 X.ch, .int .i64 X.wd, .slice none 0 0, .int .i64 X.smp, .bool X.lit], .int .i64 E]) rfl (by kernel_rfl) (by kernel_rfl) (by kernel_rfl) (fun _ _ _ h => h) (Or.inl ⟨by rfl, fun w hSw => by obtain ⟨s1, s2, s3⟩ := HSS.out _ hSw; go_simp⟩) hS5 ?_
       simp only [Act.put, List.getElem_toArray, List.getElem_cons_succ, List.getElem_cons_zero, List.setIfInBounds_toArray, List.set_cons_zero, List.set_cons_succ]
       refine wpAnyH_take (i := 11) (v := .agg #[.int .i64 X.rate, .int .i64 X.ch, .int .i64 X.wd, .slice none 0 0, .int .i64 X.smp, .bool X.lit]) rfl (by kernel_rfl) (by kernel_rfl) (by kernel_rfl) (fun _ _ _ h => h) (Or.inl ⟨by rfl, fun w hSw => by obtain ⟨s1, s2, s3⟩ := HSS.out _ hSw; go_simp⟩) hS5 ?_
       simp only [Act.put, List.getElem_toArray, List.getElem_cons_succ, List.getElem_cons_zero, List.setIfInBounds_toArray, List.set_cons_zero, List.set_cons_succ]
       refine wpAnyH_take (i := 12) (v := .int .i64 E) rfl (by kernel_rfl) (by kernel_rfl) (by kernel_rfl) (fun _ _ _ h => h) (Or.inl ⟨by rfl, fun w hSw => by obtain ⟨s1, s2, s3⟩ := HSS.out _ hSw; go_simp⟩) hS5 ?_
       simp only [Act.put, List.getElem_toArray, List.getElem_cons_succ, List.getElem_cons_zero, List.setIfInBounds_toArray, List.set_cons_zero, List.set_cons_succ]
       refine wpAnyH_ready (rs := [13]) (by kernel_rfl) (by simp) ?_
       refine AllReadyH.cons rfl (fun K hK => ?_) AllReadyH.nil
       go_simp
       refine hK.out _ _ (below_on HJ5.out.2 (belA _ _)) (fun hS6 => ?_)
       clear hK K
       refine wpAnyH_ready (rs := [14]) (by kernel_rfl) (by simp) ?_
       refine AllReadyH.cons rfl (fun K hK => ?_) AllReadyH.nil
       go_simp
       refine hK.out _ _ (below_on HJ5.out.2 (belA _ _)) (fun hS7 => ?_)
       clear hK K
       refine wpAnyH_take (i := 15) (v := .int .i64 E) rfl (by kernel_rfl) (by kernel_rfl) (by kernel_rfl) (fun _ _ _ h => h) (Or.inl ⟨by rfl, fun w hSw => by obtain ⟨s1, s2, s3⟩ := HSS.out _ hSw; go_simp⟩) hS7 ?_
       simp only [Act.put, List.getElem_toArray, List.getElem_cons_succ, List.getElem_cons_zero, List.setIfInBounds_toArray, List.set_cons_zero, List.set_cons_succ]
       refine wpAnyH_done (by kernel_rfl) ?_ _
       go_wp2_with fail
       go_meet
       exact ⟨rfl, _, rfl, HJ5.out.1.next (belA _ _), Box.new _ _ _⟩
      ·go_simp
       have HA : Hid (Jd w p po pc f l (some ⟨b, off, none⟩) cap (w2.alloc (.cells zeroQ 51)).drew ∧ Below w2.heap.size w2 (w2.alloc (.cells zeroQ 51)).drew ∧ Box w2.heap.size zeroQ 51 (w2.alloc (.cells zeroQ 51)).drew) := ⟨(HJ2.out.next (belA _ _)).next (belD _), below_on (belA _ _) (belD _), (Box.new _ _ _).next (belD _)⟩
       refine hK.out _ _ HA.out.2.1 (fun hS5 => ?_)
       clear hK K
       refine wpAnyH_ready (rs := [9]) (by kernel_rfl) (by simp) ?_
       refine AllReadyH.cons rfl (fun K hK => ?_) AllReadyH.nil
       go_simp
       refine (KS.out _).mono ?_
       rintro e w5 ⟨rfl, hB5⟩
       have HJ5 : Hid (Below w2.heap.size w2 w5 ∧ Box w2.heap.size zeroQ 51 w5) := ⟨below_on HA.out.2.1 hB5, HA.out.2.2.next hB5⟩
       refine hK.out _ _ HJ5.out.1 (fun hS6 => ?_)
       clear hK K HA hB5
       generalize hQ : w2.heap.size = Q at *
       refine wpAnyH_take (i := 10) (v := .tuple #[.agg #[.int .i64 X.rate, .int .i64 X.ch, .int .i64 X.wd, .slice none 0 0, .int .i64 X.smp, .bool X.lit], .int .i64 E]) rfl (by kernel_rfl) (by kernel_rfl) (by kernel_rfl) (fun _ _ _ h => h) (Or.inl ⟨by rfl, fun w hSw => by obtain ⟨s1, s2, s3⟩ := HSS.out _ hSw; go_simp⟩) hS6 ?_
       simp only [Act.put, List.getElem_toArray, List.getElem_cons_succ, List.getElem_cons_zero, List.setIfInBounds_toArray, List.set_cons_zero, List.set_cons_succ]
       refine wpAnyH_take (i := 11) (v := .agg #[.int .i64 X.rate, .int .i64 X.ch, .int .i64 X.wd, .slice none 0 0, .int .i64 X.smp, .bool X.lit]) rfl (by kernel_rfl) (by kernel_rfl) (by kernel_rfl) (fun _ _ _ h => h) (Or.inl ⟨by rfl, fun w hSw => by obtain ⟨s1, s2, s3⟩ := HSS.out _ hSw; go_simp⟩) hS6 ?_
       simp only [Act.put, List.getElem_toArray, List.getElem_cons_succ, List.getElem_cons_zero, List.setIfInBounds_toArray, List.set_cons_zero, List.set_cons_succ]
       refine wpAnyH_take (i := 12) (v := .int .i64 E) rfl (by kernel_rfl) (by kernel_rfl) (by kernel_rfl) (fun _ _ _ h => h) (Or.inl ⟨by rfl, fun w hSw => by obtain ⟨s1, s2, s3⟩ := HSS.out _ hSw; go_simp⟩) hS6 ?_
       simp only [Act.put, List.getElem_toArray, List.getElem_cons_succ, List.getElem_cons_zero, List.setIfInBounds_toArray, List.set_cons_zero, List.set_cons_succ]
       have r0 := HJ5.out.2.c 0 _ rfl
       have z0 := HJ5.out.2.z 0
       have r1 := HJ5.out.2.c 1 _ rfl
       have z1 := HJ5.out.2.z 1
       have r2 := HJ5.out.2.c 2 _ rfl
       have z2 := HJ5.out.2.z 2
       have r3 := HJ5.out.2.c 3 _ rfl
       have z3 := HJ5.out.2.z 3
       have r4 := HJ5.out.2.c 4 _ rfl
       have z4 := HJ5.out.2.z 4
       have r5 := HJ5.out.2.c 5 _ rfl
       have z5 := HJ5.out.2.z 5
       have HB6 : Hid (Below Q w2 ((((((w5.setCell ⟨Q, 0, none⟩ (.int .i64 X.rate)).setCell ⟨Q, 1, none⟩ (.int .i64 X.ch)).setCell ⟨Q, 2, none⟩ (.int .i64 X.wd)).setCell ⟨Q, 3, none⟩ (.slice none 0 0)).setCell ⟨Q, 4, none⟩ (.int .i64 X.smp)).setCell ⟨Q, 5, none⟩ (.bool X.lit))) := (((((HJ5.out.1.setCell (Nat.le_refl _) _).setCell (Nat.le_refl _) _).setCell (Nat.le_refl _) _).setCell (Nat.le_refl _) _).setCell (Nat.le_refl _) _).setCell (Nat.le_refl _) _
       have HJ6 : Hid (Jd w p po pc f l (some ⟨b, off, none⟩) cap ((((((w5.setCell ⟨Q, 0, none⟩ (.int .i64 X.rate)).setCell ⟨Q, 1, none⟩ (.int .i64 X.ch)).setCell ⟨Q, 2, none⟩ (.int .i64 X.wd)).setCell ⟨Q, 3, none⟩ (.slice none 0 0)).setCell ⟨Q, 4, none⟩ (.int .i64 X.smp)).setCell ⟨Q, 5, none⟩ (.bool X.lit)) ∧ Box Q (comC X) 51 ((((((w5.setCell ⟨Q, 0, none⟩ (.int .i64 X.rate)).setCell ⟨Q, 1, none⟩ (.int .i64 X.ch)).setCell ⟨Q, 2, none⟩ (.int .i64 X.wd)).setCell ⟨Q, 3, none⟩ (.slice none 0 0)).setCell ⟨Q, 4, none⟩ (.int .i64 X.smp)).setCell ⟨Q, 5, none⟩ (.bool X.lit))) := ⟨HJ2.out.next (by rw [hQ]; exact HB6.out), (((((HJ5.out.2.set 0 _).set 1 _).set 2 _).set 3 _).set 4 _).set 5 _⟩
       refine wpAnyH_ready (rs := [14]) (by kernel_rfl) (by simp) ?_
       refine AllReadyH.cons rfl (fun K hK => ?_) AllReadyH.nil
       go_simp
       refine hK.out _ _ HB6.out (fun hS7 => ?_)
       clear hK K
       refine wpAnyH_take (i := 15) (v := .int .i64 E) rfl (by kernel_rfl) (by kernel_rfl) (by kernel_rfl) (fun _ _ _ h => h) (Or.inl ⟨by rfl, fun w hSw => by obtain ⟨s1, s2, s3⟩ := HSS.out _ hSw; go_simp⟩) hS7 ?_
       simp only [Act.put, List.getElem_toArray, List.getElem_cons_succ, List.getElem_cons_zero, List.setIfInBounds_toArray, List.set_cons_zero, List.set_cons_succ]
       refine wpAnyH_done (by kernel_rfl) ?_ _
       go_wp2_with fail
       go_meet
       exact ⟨rfl, Q, rfl, HJ6.out⟩
     case rest =>
      obtain ⟨rfl, Q, rfl, hj⟩ := hcut
      rename World => wA
      have HC : Hid (Jd w p po pc f l (some ⟨b, off, none⟩) cap wA ∧ Box Q (comC X) 51 wA) := hj
      clear hj HJ2 HSS KS
      cases hE : E != 0
      ·have hE0 : E = 0 := by simpa using hE
       have HCE0 : Hid (dE f l = 0) := HCE.out.trans hE0
       rw [hE0]
       clear hE hE0 HCE
       have HDL : Hid (dL p f l = if (findN l ssndT).2 == 1 then filL l (findN l ssndT).1 (packN p (!X.lit) false) else l) := by
        show _ = _
        unfold dL
        rw [HDX.out]
       have hps := HPS.out (!X.lit)
       have kp := rpack_spec p po pc (!X.lit) false wA HC.out.1.pb.rows
       generalize packN p (!X.lit) false = D at *
       have x0 := HC.out.1.pb.p 0 _ rfl
       have x1 := HC.out.1.pb.p 1 _ rfl
       have x2 := HC.out.1.pb.p 2 _ rfl
       have x3 := HC.out.1.pb.p 3 _ rfl
       have q5 := HC.out.2.c 5 _ rfl
       go_wp2_with fail
       refine kp.mono ?_
       rintro e w4 ⟨rfl, hB4⟩
       have HJ4 : Hid (Jd w p po pc f l (some ⟨b, off, none⟩) cap w4) := HC.out.1.next hB4
       clear kp hB4 HC x0 x1 x2 x3 q5
       generalize checkN p = CE at *
       have y1 := HJ4.out.wb.p 1 _ rfl
       obtain ⟨iK, hK0, hK1, hK2, hK3⟩ := info_parts5 infoK3
       have HIK : Hid (Tryz.prog.info? 55 = some iK ∧ iK.zero = some (.agg zeroK) ∧ iK.size = 3 ∧ iK.bytes = 40) := ⟨hK0, hK1, hK2, hK3⟩
       have HNW : Hid (∀ j u, (ccells l)[j]? = some u → w4.cell? ((⟨b, off, none⟩ : Addr).add j) = some u) := fun j u hj => by
        obtain ⟨b', off', e', hcs⟩ := HJ4.out.wb.chks.lies (by omega)
        cases e'
        exact ccells_at hcs j u hj
       clear hK0 hK1 hK2 hK3
       go_wp2_with (at_builtin; refine wpList_append_row _ rfl (.const (.slice none 0 0)) (.tmp 66) 25 rfl w4.heap.size 55 iK (.agg zeroK) 3 40 Tryz.underlying25 HIK.out.1 HIK.out.2.1 HIK.out.2.2.1 HIK.out.2.2.2 rfl (by decide) (.slice none 0 0) 0 [] rfl (World.ownsRow_nil _ _ _ _) ⟨b, off, none⟩ l.length cap (ccells l) rfl (ccells_length l) HNW.out (ccells_one l) (by simp only [maxLen]; omega) (by omega) (Nat.le_refl _) ?_; intro v6 w6 ho6 hg6)
       have ho := ho6.out
       rw [Nat.zero_add, List.nil_append] at ho
       have hB6 : Below w4.heap.size w4 w6 := grown_to hg6.out (Below.refl _ _) (Nat.le_refl _) (fun k e => by cases e)
       obtain ⟨ao', cap', e, _⟩ := ChksAt.own ho
       subst e
       obtain ⟨g, rfl, hgb, hgw, _, _, _, hfz⟩ := OwnC.spot ho i c HIC.out
       have HO6 : Hid (OwnC w4.heap.size (some ⟨g, 0, none⟩) cap' l w6 ∧ Below w4.heap.size w4 w6 ∧ w4.heap.size ≤ g) := ⟨ho, hB6, hgb⟩
       have k2 : Calls Tryz.prog 19 #[.slice (some ⟨g, 0, none⟩) l.length cap', .string ⟨#[83, 83, 78, 68]⟩] w6 fun e w' => e = .returned (.tuple #[.int .i64 (findN l ssndT).1, .int .i64 (findN l ssndT).2]) ∧ w' = w6 := r7find_spec l ssndT _ cap' w6 HO6.out.1.at (by omega)
       clear ho hB6 hgb hgw hfz ho6 hg6 HIK HNW y1
       refine k2.mono ?_
       rintro e w3 ⟨rfl, hw3⟩
       rw [hw3]
       clear k2 hw3 w3
       have HFS := findN_cases l ssndT
       have HFSH : Hid (((findN l ssndT).1 = -1 ∧ (findN l ssndT).2 = 0) ∨ (∃ i c, l[i]? = some c ∧ (findN l ssndT).1 = ((i : Nat) : Int))) := by
        rcases HFS with ⟨a1, a2, _⟩ | ⟨i, c, a1, a2, _, _⟩
        ·exact Or.inl ⟨a1, a2⟩
        ·exact Or.inr ⟨i, c, a1, a2⟩
       clear HFS
       generalize (findN l ssndT).1 = S1 at *
       generalize (findN l ssndT).2 = S2 at *
       go_upto_if 74 with fail
       go_cut [75] from 73 to 83 (fun u wx => Jd w p po pc f l (some ⟨b, off, none⟩) cap wx ∧ OwnC w4.heap.size (some ⟨g, 0, none⟩) cap' (dL p f l) wx)
       case first =>
        cases hs2 : S2 == 1
        ·have HDL0 : Hid (dL p f l = l) := HDL.out.trans (by rw [hs2]; rfl)
         go_wp2_with fail
         go_meet
         exact ⟨HJ4.out.next HO6.out.2.1, by rw [HDL0.out]; exact HO6.out.1⟩
        ·rcases HFSH.out with ⟨_, a2⟩ | ⟨k, d, a1, a2⟩
         ·rw [a2] at hs2
          cases hs2
         ·subst a2
          have hkl := (List.getElem?_eq_some_iff.1 a1).1
          have hdz := (HFT.out d (List.mem_of_getElem? a1)).2
          have hat := atC_get _ _ _ a1
          have HDL0 : Hid (dL p f l = l.set k ⟨d.id, d.body ++ D, d.pad⟩) := HDL.out.trans (by
           rw [hs2]
           unfold filL filC7
           rw [if_pos rfl, if_neg (by omega), hat, Int.toNat_natCast])
          have HSP : Hid (w6.cell? ⟨g, k * 3 + 1, none⟩ = some (.string d.body) ∧ w6.frozen? ⟨g, k * 3 + 1, none⟩ = false) := by
           obtain ⟨g', e', _, _, _, y1, _, yz⟩ := HO6.out.1.spot k d a1
           cases e'
           exact ⟨y1, yz _⟩
          have y1 := HSP.out.1
          have z1 := HSP.out.2
          have hbig : ¬ (9223372036854775807 < d.body.size + D.size) := by omega
          have HSET : Hid (Jd w p po pc f l (some ⟨b, off, none⟩) cap (w6.setCell ⟨g, k * 3 + 1, none⟩ (.string (d.body ++ D))) ∧ OwnC w4.heap.size (some ⟨g, 0, none⟩) cap' (dL p f l) (w6.setCell ⟨g, k * 3 + 1, none⟩ (.string (d.body ++ D)))) := ⟨HJ4.out.next (HO6.out.2.1.setCell HO6.out.2.2 _), by rw [HDL0.out]; exact HO6.out.1.set k d a1 _⟩
          clear hat a1 hdz
          go_wp2_with fail
          go_meet
          exact HSET.out
       case rest =>
        have HC8 : Hid (Jd w p po pc f l (some ⟨b, off, none⟩) cap wc ∧ OwnC w4.heap.size (some ⟨g, 0, none⟩) cap' (dL p f l) wc) := hcut
        clear hcut HO6 HJ4 HFSH HDL HPS
        have ky : Calls Tryz.prog 36 #[.slice (some ⟨g, 0, none⟩) l.length cap', .bool true] wc fun e w' => e = .returned (.tuple #[.string (layT (dL p f l) true), .int .i64 (layE (dL p f l))]) ∧ Below wc.heap.size wc w' := by
         have h := r6lay_spec (dL p f l) true _ cap' wc HC8.out.2.at (by rw [dL_len]; omega) HFC.out.1 (by have := HFC.out.2; omega)
         rw [dL_len] at h
         exact h
        have HBZ : Hid ((layT (dL p f l) true).size ≤ 40000000000000) := by
         show _ ≤ _
         unfold layT
         split
         ·have := HFC.out.2
          rw [textOf_size]
          omega
         ·exact Nat.zero_le _
        have HDS : Hid (dS p f l = formT ++ beT (4 + ((layT (dL p f l) true).size : Int)) 4 ++ f ++ layT (dL p f l) true) := rfl
        go_wp2_with fail
        refine ky.mono ?_
        rintro e w9 ⟨rfl, hB9⟩
        have HJ9 : Hid (Jd w p po pc f l (some ⟨b, off, none⟩) cap w9) := HC8.out.1.next hB9
        clear ky hB9 HC8
        cases hy : layE (dL p f l) != 0
        ·have hy0 : layE (dL p f l) = 0 := by simpa using hy
         have HY0 : Hid (layE (dL p f l) = 0) := hy0
         rw [hy0]
         clear hy hy0
         have hbz := HBZ.out
         have hwr : wrap64 (4 + ((layT (dL p f l) true).size : Int)) = 4 + ((layT (dL p f l) true).size : Int) := by unfold wrap64; omega
         have kb := refbe_spec (4 + ((layT (dL p f l) true).size : Int)) 4 (by omega) (by omega) w9
         have h4s := beT_size (4 + ((layT (dL p f l) true).size : Int)) 4
         generalize layT (dL p f l) true = BB at *
         go_wp2_with fail
         refine kb.mono ?_
         rintro e w10 ⟨rfl, hB10⟩
         have HJ10 : Hid (Jd w p po pc f l (some ⟨b, off, none⟩) cap w10) := HJ9.out.next hB10
         clear kb hB10 HJ9 hwr
         generalize wE (4 + (BB.size : Int)) 4 = WE at *
         generalize beT (4 + (BB.size : Int)) 4 = BE at *
         have hzf := HLL.out.2
         have z1 : ¬ (9223372036854775807 < (⟨#[70, 79, 82, 77]⟩ : ByteArray).size + BE.size) := by
          show ¬ (9223372036854775807 < 4 + BE.size)
          omega
         have z2 : ¬ (9223372036854775807 < (⟨#[70, 79, 82, 77]⟩ : ByteArray).size + BE.size + f.size) := by
          show ¬ (9223372036854775807 < 4 + BE.size + f.size)
          omega
         have z3 : ¬ (9223372036854775807 < (⟨#[70, 79, 82, 77]⟩ : ByteArray).size + BE.size + f.size + BB.size) := by
          show ¬ (9223372036854775807 < 4 + BE.size + f.size + BB.size)
          omega
         have y0 := HJ10.out.wb.p 0 _ rfl
         have KR : Hid (∀ wx, Calls Tryz.prog 7 #[.string (dS p f l)] wx fun e w' => ∃ po pc wo wc, e = .returned (.tuple #[pcmV (ansP (dS p f l)) po pc, .agg (waveC (ansF (dS p f l)) (ansL (dS p f l)) wo wc), .int .i64 (p7E (dS p f l))]) ∧ Below wx.heap.size wx w' ∧ RowsAt w' po (ansP (dS p f l)).pl ∧ ChksAt w' wo (ansL (dS p f l))) := fun wx => (r7parse_spec (dS p f l) wx (by
          rw [HDS.out]
          simp only [ByteArray.size_append]
          show 4 + BE.size + f.size + BB.size ≤ _
          omega)).mono fun e w' h => ans_of h
         have HALN : Hid ((ansL (dS p f l)).length ≤ 9000000000000000) := ansL_len _
         go_wp2_with fail
         have HDS2 : ((⟨#[70, 79, 82, 77]⟩ : ByteArray) ++ BE ++ f ++ BB) = dS p f l := HDS.out.symm
         rw [HDS2]
         have HAN : Hid (p7E (dS p f l) = 0 → ansP (dS p f l) = p7P (dS p f l) ∧ ansF (dS p f l) = opF (dS p f l) ∧ ansL (dS p f l) = p7L (dS p f l)) := fun h => ⟨if_pos h, if_pos h, if_pos h⟩
         clear z1 z2 z3 y0 hzf h4s HDS HDS2 hbz HBZ
         generalize hSS : dS p f l = SS at *
         refine (KR.out _).mono ?_
         rintro e w11 ⟨qo, qc, oo, oc, rfl, hB11, hr11, hc11⟩
         have HJ12 : Hid (Jd w p po pc f l (some ⟨b, off, none⟩) cap ((w11.alloc (.cells (pcmC (ansP SS) qo qc) 24)).alloc (.cells (waveC (ansF SS) (ansL SS) oo oc) 27))) := ((HJ10.out.next hB11).next (belA _ _)).next (belA _ _)
         have HJ12b : Hid (PB w11.heap.size (ansP SS) qo qc ((w11.alloc (.cells (pcmC (ansP SS) qo qc) 24)).alloc (.cells (waveC (ansF SS) (ansL SS) oo oc) 27)) ∧ WB (w11.heap.size + 1) (ansF SS) (ansL SS) oo oc ((w11.alloc (.cells (pcmC (ansP SS) qo qc) 24)).alloc (.cells (waveC (ansF SS) (ansL SS) oo oc) 27))) := by
          refine ⟨(PB.new hr11 qc).next (belA _ _), ?_⟩
          have h := WB.new (f := ansF SS) (hc11.below (belA w11 (.cells (pcmC (ansP SS) qo qc) 24))) oc
          rw [show (w11.alloc (.cells (pcmC (ansP SS) qo qc) 24)).heap.size = w11.heap.size + 1 from by simp] at h
          exact h
         clear KR hB11 hr11 hc11 HJ10
         cases h7 : p7E SS != 0
         ·have h70 : p7E SS = 0 := by simpa using h7
          have HP0 : Hid (p7E SS = 0) := h70
          have HANS : Hid (ansP SS = p7P SS ∧ ansF SS = opF SS ∧ ansL SS = p7L SS) := HAN.out h70
          rw [h70]
          clear h7 h70 HAN
          go_upto_region 21 with fail
          generalize hw12 : World.alloc (World.alloc w11 _) _ = w12
          generalize hR : w11.heap.size = R at *
          have HJ13 : Hid (Jd w p po pc f l (some ⟨b, off, none⟩) cap w12) := by
           rw [← hw12]
           exact HJ12.out
          have HJ13b : Hid (PB R (ansP SS) qo qc w12 ∧ WB (R + 1) (ansF SS) (ansL SS) oo oc w12) := by
           rw [← hw12]
           exact HJ12b.out
          clear hw12 hR HJ12 HJ12b
          have ks := rsame_spec p (ansP SS) po qo pc qc w12 HJ13.out.pb.rows HJ13b.out.1.rows
          have x0 := HJ13.out.pb.p 0 _ rfl
          have x1 := HJ13.out.pb.p 1 _ rfl
          have x2 := HJ13.out.pb.p 2 _ rfl
          have x3 := HJ13.out.pb.p 3 _ rfl
          have r0 := HJ13b.out.1.p 0 _ rfl
          have r1 := HJ13b.out.1.p 1 _ rfl
          have r2 := HJ13b.out.1.p 2 _ rfl
          have r3 := HJ13b.out.1.p 3 _ rfl
          have HSB : Hid (sameB p (ansP SS) = true → p = ansP SS) := sameB_eq
          have HSW : Hid (sameW f l (ansF SS) (ansL SS) = true → f = ansF SS ∧ l = ansL SS) := sameW_eq
          go_wp2_with fail
          refine ks.mono ?_
          rintro e w13 ⟨rfl, hB13⟩
          have HJ14 : Hid (Jd w p po pc f l (some ⟨b, off, none⟩) cap w13) := HJ13.out.next hB13
          have HJ14b : Hid (WB (R + 1) (ansF SS) (ansL SS) oo oc w13) := HJ13b.out.2.next hB13
          clear ks hB13 HJ13b x0 x1 x2 x3 r0 r1 r2 r3
          cases hsb : sameB p (ansP SS)
          ·have HF : Hid (b7E p f l = 60 ∧ b7T p f l = ⟨#[]⟩) := HN60.out (fun q => by
            have := q.hp
            rw [hSS] at this
            rw [HANS.out.1, this, sameB_refl] at hsb
            cases hsb)
           go_wp2_with fail
           go_ret2
           exact ⟨by rw [HF.out.1, HF.out.2]; rfl, HJ14.out.below⟩
          ·have kw := r7same_spec f (ansF SS) l (ansL SS) (some ⟨b, off, none⟩) oo cap oc w13 HJ14.out.wb.chks HJ14b.out.chks (by have := HLL.out.1; omega)
           have y0 := HJ14.out.wb.p 0 _ rfl
           have y1 := HJ14.out.wb.p 1 _ rfl
           have o0 := HJ14b.out.p 0 _ rfl
           have o1 := HJ14b.out.p 1 _ rfl
           go_wp2_with fail
           refine kw.mono ?_
           rintro e w14 ⟨rfl, hB14⟩
           have HJ15 : Hid (Jd w p po pc f l (some ⟨b, off, none⟩) cap w14) := HJ14.out.next hB14
           clear kw hB14 HJ14b y0 y1 o0 o1
           cases hsw : sameW f l (ansF SS) (ansL SS)
           ·have HF : Hid (b7E p f l = 60 ∧ b7T p f l = ⟨#[]⟩) := HN60.out (fun q => by
             have e1 := q.hf
             have e2 := q.hl
             rw [hSS] at e1 e2
             rw [HANS.out.2.1, HANS.out.2.2, e1, e2, sameA_refl] at hsw
             cases hsw)
            go_wp2_with fail
            go_ret2
            exact ⟨by rw [HF.out.1, HF.out.2]; rfl, HJ15.out.below⟩
           ·have HF : Hid (b7E p f l = 0 ∧ b7T p f l = SS) := by
             have e0 := HSB.out hsb
             obtain ⟨e1, e2⟩ := HSW.out hsw
             rw [HANS.out.1] at e0
             rw [HANS.out.2.1] at e1
             rw [HANS.out.2.2] at e2
             rw [← hSS] at e0 e1 e2 HP0
             exact HYES.out ⟨HCC.out.1, HCC.out.2, HCE0.out, HY0.out, HP0.out, e0.symm, e1.symm, e2.symm⟩
            clear hsb HSB HSW
            go_wp2_with fail
            go_ret2
            exact ⟨by rw [HF.out.1, HF.out.2]; rfl, HJ15.out.below⟩
         ·have HF : Hid (b7E p f l = 60 ∧ b7T p f l = ⟨#[]⟩) := HN60.out (fun q => by
           have := q.r
           rw [hSS] at this
           rw [this] at h7
           cases h7)
          go_wp2_with fail
          go_ret2
          exact ⟨by rw [HF.out.1, HF.out.2]; rfl, HJ12.out.below⟩
        ·have HF : Hid (b7E p f l = 60 ∧ b7T p f l = ⟨#[]⟩) := HN60.out (fun q => by
          rw [q.y] at hy
          cases hy)
         go_wp2_with fail
         go_ret2
         exact ⟨by rw [HF.out.1, HF.out.2]; rfl, HJ9.out.below⟩
      ·have hEn : E ≠ 0 := by simpa using hE
       have HCJ : Hid (Jd w p po pc f l (some ⟨b, off, none⟩) cap wA) := HC.out.1
       have HF : Hid (b7E p f l = 60 ∧ b7T p f l = ⟨#[]⟩) := HN60.out (fun q => hEn (HCE.out.symm.trans q.e))
       go_wp2_with fail
       go_ret2
       exact ⟨by rw [HF.out.1, HF.out.2]; rfl, HCJ.out.below⟩
   ·have HF : Hid (b7E p f l = 60 ∧ b7T p f l = ⟨#[]⟩) := HN60.out (fun q => by
     rw [q.z] at hz
     cases hz)
    have y0 := HJ2.out.wb.p 0 _ rfl
    go_wp2_with fail
    go_ret2
    exact ⟨by rw [HF.out.1, HF.out.2]; rfl, HJ2.out.below⟩
  ·have HF : Hid (b7E p f l = 60 ∧ b7T p f l = ⟨#[]⟩) := HN60.out (fun q => by
    rw [q.c] at hn
    cases hn)
   go_wp2_with fail
   go_ret2
   exact ⟨by rw [HF.out.1, HF.out.2]; rfl, HJ2.out.below⟩
 ·have hE : (fitsN 2 p != 0) = true := by simpa using h0
  have HF : Hid (b7E p f l = fitsN 2 p ∧ b7T p f l = ⟨#[]⟩) := by
   have hb : b7E p f l = fitsN 2 p := if_neg h0
   refine ⟨hb, ?_⟩
   unfold b7T
   rw [if_neg (by rw [hb]; exact h0)]
  clear h0 HFC0
  generalize fitsN 2 p = FE at *
  go_wp2_with fail
  go_ret2
  exact ⟨by rw [HF.out.1, HF.out.2]; rfl, HJ2.out.below⟩

end Go.Proofs.YtaepgjheknkojaaGreat
