/- Own text: the walk of the document's Lay. -/
import Derived.Test.YtaepgjheknkojaaGreatG17x
import Derived.Test.YtaepgjheknkojaaGreatG11x
import Derived.Test.YtaepgjheknkojaaGreatG7x
namespace Go.Proofs.YtaepgjheknkojaaGreat
open Go.RowKit
set_option linter.unusedSimpArgs false
set_option linter.unusedVariables false

theorem info5 : (Tryz.prog.info? 5).map (fun i => (i.zero, i.size, i.bytes)) = some (some (.int .u8 0), 1, 1) := by kernel_rfl
theorem toT_four (n : Int) (big : Bool) : (toT n big).size ≤ 4 := by
 have h : ∀ q : Bool, (if q = true then textOf (highL n.toNat (4 : Int).toNat) else ⟨#[]⟩).size ≤ 4 := fun q => by
  split
  ·rw [textOf_size, highL_length]
   decide
  ·exact Nat.zero_le _
 have h2 : ∀ q : Bool, (if q = true then textOf (lowL n.toNat (4 : Int).toNat) else ⟨#[]⟩).size ≤ 4 := fun q => by
  split
  ·rw [textOf_size, lowL_length]
   decide
  ·exact Nat.zero_le _
 unfold toT
 split
 ·exact h (fitsB n 4)
 ·exact h2 (fitsB n 4)
/-- Numbers and sizes that a chunk has. -/
structure FairC (c : Chk) : Prop where
 i1 : c.id.size ≤ 140737488351232
 b1 : c.body.size ≤ 140737488351232
 p1 : -9223372036854775808 ≤ c.pad
 p2 : c.pad ≤ 9223372036854775807
set_option maxRecDepth 20000 in
set_option maxHeartbeats 6400000 in
theorem r6lay_spec (l : List Chk) (big : Bool) (ao : Option Addr) (cap : Nat) (w : World) (hl : ChksAt w ao l) (hll : l.length ≤ 9000000000000000) (hf : ∀ (i : Nat) (c : Chk), l[i]? = some c → FairC c) (hsz : (layL l big).length ≤ 140737488355328) :
  Calls Tryz.prog 36 #[.slice ao l.length cap, .bool big] w fun e w' => e = .returned (.tuple #[.string (layT l big), .int .i64 (layE l)]) ∧ Below w.heap.size w w' := by
 have HL : Hid (ChksAt w ao l) := hl
 have HF : Hid (∀ (i : Nat) (c : Chk), l[i]? = some c → FairC c) := hf
 have HSZ : Hid ((layL l big).length ≤ 140737488355328) := hsz
 have HG0 : Hid (Gb w noS [] w) := ⟨World.ownsRow_nil _ _ _ _, Below.refl _ _⟩
 obtain ⟨i5, h50, h51, h52, h53⟩ := info_parts5 info5
 have H5 : Hid (Tryz.prog.info? 5 = some i5 ∧ i5.zero = some (.int .u8 0) ∧ i5.size = 1 ∧ i5.bytes = 1) := ⟨h50, h51, h52, h53⟩
 clear hl hf hsz h50 h51 h52 h53
 by_cases h1024 : l.length ≤ 1024
 ·go_enter Tryz.func36, Tryz.ntmps36
  go_wp2_with fail
  go_loopw [6, 7] (fun g t wr => ∃ i : Nat, i ≤ l.length ∧ t = .int .i64 (i : Int) ∧ Gb w g (layL (l.take i) big) wr ∧ ∀ (j : Nat) (c : Chk), j < i → l[j]? = some c → layOk c (decide (j + 1 = l.length)) = true) (fun _ t _ => l.length - (intOf t).toNat)
  case atStart => exact ⟨0, Nat.zero_le _, rfl, HG0.out, fun j c hj => absurd hj (Nat.not_lt_zero _)⟩
  case round =>
   clear HG0
   obtain ⟨i, hi, rfl, hg, hall⟩ := hrel
   obtain ⟨va, vc, rfl⟩ := hg.shape
   have HG : Hid (Gb w (.slice va (layL (l.take i) big).length vc) (layL (l.take i) big) wr) := hg
   have HALL : Hid (∀ (j : Nat) (c : Chk), j < i → l[j]? = some c → layOk c (decide (j + 1 = l.length)) = true) := hall
   clear hg hall
   by_cases hlt : i < l.length
   ·obtain ⟨c, hc⟩ : ∃ c, l[i]? = some c := ⟨_, List.getElem?_eq_getElem hlt⟩
    obtain ⟨b, off, rfl, hcl⟩ := HL.out.at i c hc
    obtain ⟨x0, x1, x2⟩ := hcl wr HG.out.below
    have HSS : Hid (∀ wx, Below w.heap.size w wx → wx.cell? ⟨b, off + i * 3, none⟩ = some (.string c.id) ∧ wx.cell? ⟨b, off + i * 3 + 1, none⟩ = some (.string c.body)) := fun wx hx => ⟨(hcl wx hx).1, (hcl wx hx).2.1⟩
    have HPC : Hid (∀ wx, Below w.heap.size w wx → wx.cell? ⟨b, off + i * 3 + 2, none⟩ = some (.int .i64 c.pad)) := fun wx hx => (hcl wx hx).2.2
    have hfc := HF.out i c hc
    have hb1 := hfc.b1
    have hi1 := hfc.i1
    have ki := r6id_spec c.id (by omega)
    have kt := r6to_spec (c.body.size : Int) big (by omega) (by omega)
    obtain ⟨TT, hTT⟩ : ∃ TT, toT (c.body.size : Int) big = TT := ⟨_, rfl⟩
    rw [hTT] at kt
    have HST : Hid (layL (l.take (i + 1)) big = layL (l.take i) big ++ (bytesOf (c.id ++ TT ++ c.body) ++ tailC c)) := by
     show _ = _
     rw [layL_take l big i c hc, ← hTT]
     rfl
    have HLB : Hid ((layL (l.take i) big).length + (c.id ++ TT ++ c.body).size ≤ 140737488355328) := by
     have h1 := layL_pre l big (i + 1)
     rw [HST.out, List.length_append, List.length_append, bytesOf_length] at h1
     have := HSZ.out
     show _ ≤ _
     omega
    have hts : TT.size ≤ 4 := by rw [← hTT]; exact toT_four _ big
    have hct1 : c.id.size + TT.size ≤ 9223372036854775807 := by omega
    have hct2 : c.id.size + TT.size + c.body.size ≤ 9223372036854775807 := by omega
    clear hcl hTT hfc
    by_cases hodd : c.body.size % 2 = 1
    ·have HODD : Hid (oddC c = true) := decide_eq_true hodd
     have hmod : (c.body.size : Int) % 2 = 1 := by omega
     by_cases hlast : i + 1 = l.length
     ·have HLAST : Hid (decide (i + 1 = l.length) = true) := decide_eq_true hlast
      have hli : ((i : Int) == (l.length : Int) - 1) = true := by rw [beq_iff_eq]; omega
      clear hodd hlast
      cases hid : idB c.id
      ·have hno : layOk c (decide (i + 1 = l.length)) = false := by unfold layOk; rw [hid]; rfl
       have HN := lay_no l big i c hc hno
       have HNE : Hid (layE l = 60) := HN.1
       have HNT : Hid (layT l big = ⟨#[]⟩) := HN.2
       clear HN hno
       rw [hid] at ki
       go_wp2_with fail
       refine (ki _).mono ?_
       rintro e w2 ⟨rfl, rfl⟩
       clear ki
       go_wp2_with fail
       go_ret2
       exact ⟨by rw [HNE.out, HNT.out]; rfl, HG.out.below⟩
      ·by_cases hlow : c.pad < -1
       ·have hno : layOk c (decide (i + 1 = l.length)) = false := by
         unfold layOk
         rw [hid, HODD.out, HLAST.out]
         rw [show decide ((if ((true : Bool) && true) = true then (-1 : Int) else 0) ≤ c.pad) = false from decide_eq_false (by simp; omega)]
         rfl
        have HN := lay_no l big i c hc hno
        have HNE : Hid (layE l = 60) := HN.1
        have HNT : Hid (layT l big = ⟨#[]⟩) := HN.2
        clear HN hno
        rw [hid] at ki
        go_wp2_with fail
        refine (ki _).mono ?_
        rintro e w2 ⟨rfl, rfl⟩
        clear ki
        go_wp2_with fail
        go_ret2
        exact ⟨by rw [HNE.out, HNT.out]; rfl, HG.out.below⟩
       ·by_cases hhigh : 255 < c.pad
        ·have hno : layOk c (decide (i + 1 = l.length)) = false := by
          unfold layOk
          rw [hid, HODD.out]
          rw [show decide (c.pad ≤ if (true : Bool) = true then (255 : Int) else 0) = false from decide_eq_false (by simp; omega), Bool.and_false, Bool.and_false]
         have HN := lay_no l big i c hc hno
         have HNE : Hid (layE l = 60) := HN.1
         have HNT : Hid (layT l big = ⟨#[]⟩) := HN.2
         clear HN hno
         rw [hid] at ki
         go_wp2_with fail
         refine (ki _).mono ?_
         rintro e w2 ⟨rfl, rfl⟩
         clear ki
         go_wp2_with fail
         go_ret2
         exact ⟨by rw [HNE.out, HNT.out]; rfl, HG.out.below⟩
        ·have hyes : layOk c (decide (i + 1 = l.length)) = true := by
          unfold layOk
          rw [hid, HODD.out, HLAST.out]
          rw [show decide ((if ((true : Bool) && true) = true then (-1 : Int) else 0) ≤ c.pad) = true from decide_eq_true (by simp; omega), show decide (c.pad ≤ if (true : Bool) = true then (255 : Int) else 0) = true from decide_eq_true (by simp; omega)]
          rfl
         rw [hid] at ki
         have HOK : Hid (layOk c (decide (i + 1 = l.length)) = true) := hyes
         clear hyes
         go_wp2_with fail
         refine (ki _).mono ?_
         rintro e w2 ⟨rfl, rfl⟩
         clear ki
         go_wp2_with fail
         refine wp_region_held_drew (S := fun wx => wx.cell? ⟨b, off + i * 3, none⟩ = some (.string c.id) ∧ wx.cell? ⟨b, off + i * 3 + 1, none⟩ = some (.string c.body)) (by kernel_rfl) (HSS.out _ HG.out.below.drew) (fun hS => ?_)
         refine wpAnyH_take (i := 0) (v := .slice va (layL (l.take i) big).length vc) rfl (by kernel_rfl) (by kernel_rfl) (by kernel_rfl) (fun _ _ _ h => h) (Or.inl ⟨by rfl, fun w hSw => by obtain ⟨s1, s2⟩ := hSw; go_simp⟩) hS ?_
         simp only [Act.put, List.getElem_toArray, List.getElem_cons_succ, List.getElem_cons_zero, List.setIfInBounds_toArray, List.set_cons_zero, List.set_cons_succ]
         refine wpAnyH_take (i := 1) (v := .slice (some ⟨b, off, none⟩) l.length cap) rfl (by kernel_rfl) (by kernel_rfl) (by kernel_rfl) (fun _ _ _ h => h) (Or.inl ⟨by rfl, fun w hSw => by obtain ⟨s1, s2⟩ := hSw; go_simp⟩) hS ?_
         simp only [Act.put, List.getElem_toArray, List.getElem_cons_succ, List.getElem_cons_zero, List.setIfInBounds_toArray, List.set_cons_zero, List.set_cons_succ]
         refine wpAnyH_take (i := 2) (v := .int .i64 (i : Int)) rfl (by kernel_rfl) (by kernel_rfl) (by kernel_rfl) (fun _ _ _ h => h) (Or.inl ⟨by rfl, fun w hSw => by obtain ⟨s1, s2⟩ := hSw; go_simp⟩) hS ?_
         simp only [Act.put, List.getElem_toArray, List.getElem_cons_succ, List.getElem_cons_zero, List.setIfInBounds_toArray, List.set_cons_zero, List.set_cons_succ]
         refine wpAnyH_take (i := 3) (v := .pointer (some ⟨b, off + i * 3, none⟩)) rfl (by kernel_rfl) (by kernel_rfl) (by kernel_rfl) (fun _ _ _ h => h) (Or.inl ⟨by rfl, fun w hSw => by obtain ⟨s1, s2⟩ := hSw; go_simp⟩) hS ?_
         simp only [Act.put, List.getElem_toArray, List.getElem_cons_succ, List.getElem_cons_zero, List.setIfInBounds_toArray, List.set_cons_zero, List.set_cons_succ]
         refine wpAnyH_take (i := 4) (v := .pointer (some ⟨b, off + i * 3, none⟩)) rfl (by kernel_rfl) (by kernel_rfl) (by kernel_rfl) (fun _ _ _ h => h) (Or.inl ⟨by rfl, fun w hSw => by obtain ⟨s1, s2⟩ := hSw; go_simp⟩) hS ?_
         simp only [Act.put, List.getElem_toArray, List.getElem_cons_succ, List.getElem_cons_zero, List.setIfInBounds_toArray, List.set_cons_zero, List.set_cons_succ]
         refine wpAnyH_take (i := 5) (v := .string c.id) rfl (by kernel_rfl) (by kernel_rfl) (by kernel_rfl) (fun _ _ _ h => h) (Or.inl ⟨by rfl, fun w hSw => by obtain ⟨s1, s2⟩ := hSw; go_simp⟩) hS ?_
         simp only [Act.put, List.getElem_toArray, List.getElem_cons_succ, List.getElem_cons_zero, List.setIfInBounds_toArray, List.set_cons_zero, List.set_cons_succ]
         refine wpAnyH_take (i := 6) (v := .slice (some ⟨b, off, none⟩) l.length cap) rfl (by kernel_rfl) (by kernel_rfl) (by kernel_rfl) (fun _ _ _ h => h) (Or.inl ⟨by rfl, fun w hSw => by obtain ⟨s1, s2⟩ := hSw; go_simp⟩) hS ?_
         simp only [Act.put, List.getElem_toArray, List.getElem_cons_succ, List.getElem_cons_zero, List.setIfInBounds_toArray, List.set_cons_zero, List.set_cons_succ]
         refine wpAnyH_take (i := 7) (v := .int .i64 (i : Int)) rfl (by kernel_rfl) (by kernel_rfl) (by kernel_rfl) (fun _ _ _ h => h) (Or.inl ⟨by rfl, fun w hSw => by obtain ⟨s1, s2⟩ := hSw; go_simp⟩) hS ?_
         simp only [Act.put, List.getElem_toArray, List.getElem_cons_succ, List.getElem_cons_zero, List.setIfInBounds_toArray, List.set_cons_zero, List.set_cons_succ]
         refine wpAnyH_take (i := 8) (v := .pointer (some ⟨b, off + i * 3, none⟩)) rfl (by kernel_rfl) (by kernel_rfl) (by kernel_rfl) (fun _ _ _ h => h) (Or.inl ⟨by rfl, fun w hSw => by obtain ⟨s1, s2⟩ := hSw; go_simp⟩) hS ?_
         simp only [Act.put, List.getElem_toArray, List.getElem_cons_succ, List.getElem_cons_zero, List.setIfInBounds_toArray, List.set_cons_zero, List.set_cons_succ]
         refine wpAnyH_take (i := 9) (v := .pointer (some ⟨b, off + i * 3 + 1, none⟩)) rfl (by kernel_rfl) (by kernel_rfl) (by kernel_rfl) (fun _ _ _ h => h) (Or.inl ⟨by rfl, fun w hSw => by obtain ⟨s1, s2⟩ := hSw; go_simp⟩) hS ?_
         simp only [Act.put, List.getElem_toArray, List.getElem_cons_succ, List.getElem_cons_zero, List.setIfInBounds_toArray, List.set_cons_zero, List.set_cons_succ]
         refine wpAnyH_take (i := 10) (v := .string c.body) rfl (by kernel_rfl) (by kernel_rfl) (by kernel_rfl) (fun _ _ _ h => h) (Or.inl ⟨by rfl, fun w hSw => by obtain ⟨s1, s2⟩ := hSw; go_simp⟩) hS ?_
         simp only [Act.put, List.getElem_toArray, List.getElem_cons_succ, List.getElem_cons_zero, List.setIfInBounds_toArray, List.set_cons_zero, List.set_cons_succ]
         refine wpAnyH_take (i := 11) (v := .int .i64 (c.body.size : Int)) rfl (by kernel_rfl) (by kernel_rfl) (by kernel_rfl) (fun _ _ _ h => h) (Or.inl ⟨by rfl, fun w hSw => by obtain ⟨s1, s2⟩ := hSw; go_simp⟩) hS ?_
         simp only [Act.put, List.getElem_toArray, List.getElem_cons_succ, List.getElem_cons_zero, List.setIfInBounds_toArray, List.set_cons_zero, List.set_cons_succ]
         refine wpAnyH_take (i := 12) (v := .bool big) rfl (by kernel_rfl) (by kernel_rfl) (by kernel_rfl) (fun _ _ _ h => h) (Or.inl ⟨by rfl, fun w hSw => by obtain ⟨s1, s2⟩ := hSw; go_simp⟩) hS ?_
         simp only [Act.put, List.getElem_toArray, List.getElem_cons_succ, List.getElem_cons_zero, List.setIfInBounds_toArray, List.set_cons_zero, List.set_cons_succ]
         refine wpAnyH_take (i := 15) (v := .slice (some ⟨b, off, none⟩) l.length cap) rfl (by kernel_rfl) (by kernel_rfl) (by kernel_rfl) (fun _ _ _ h => h) (Or.inl ⟨by rfl, fun w hSw => by obtain ⟨s1, s2⟩ := hSw; go_simp⟩) hS ?_
         simp only [Act.put, List.getElem_toArray, List.getElem_cons_succ, List.getElem_cons_zero, List.setIfInBounds_toArray, List.set_cons_zero, List.set_cons_succ]
         refine wpAnyH_take (i := 16) (v := .int .i64 (i : Int)) rfl (by kernel_rfl) (by kernel_rfl) (by kernel_rfl) (fun _ _ _ h => h) (Or.inl ⟨by rfl, fun w hSw => by obtain ⟨s1, s2⟩ := hSw; go_simp⟩) hS ?_
         simp only [Act.put, List.getElem_toArray, List.getElem_cons_succ, List.getElem_cons_zero, List.setIfInBounds_toArray, List.set_cons_zero, List.set_cons_succ]
         refine wpAnyH_take (i := 17) (v := .pointer (some ⟨b, off + i * 3, none⟩)) rfl (by kernel_rfl) (by kernel_rfl) (by kernel_rfl) (fun _ _ _ h => h) (Or.inl ⟨by rfl, fun w hSw => by obtain ⟨s1, s2⟩ := hSw; go_simp⟩) hS ?_
         simp only [Act.put, List.getElem_toArray, List.getElem_cons_succ, List.getElem_cons_zero, List.setIfInBounds_toArray, List.set_cons_zero, List.set_cons_succ]
         refine wpAnyH_take (i := 18) (v := .pointer (some ⟨b, off + i * 3 + 1, none⟩)) rfl (by kernel_rfl) (by kernel_rfl) (by kernel_rfl) (fun _ _ _ h => h) (Or.inl ⟨by rfl, fun w hSw => by obtain ⟨s1, s2⟩ := hSw; go_simp⟩) hS ?_
         simp only [Act.put, List.getElem_toArray, List.getElem_cons_succ, List.getElem_cons_zero, List.setIfInBounds_toArray, List.set_cons_zero, List.set_cons_succ]
         refine wpAnyH_take (i := 19) (v := .string c.body) rfl (by kernel_rfl) (by kernel_rfl) (by kernel_rfl) (fun _ _ _ h => h) (Or.inl ⟨by rfl, fun w hSw => by obtain ⟨s1, s2⟩ := hSw; go_simp⟩) hS ?_
         simp only [Act.put, List.getElem_toArray, List.getElem_cons_succ, List.getElem_cons_zero, List.setIfInBounds_toArray, List.set_cons_zero, List.set_cons_succ]
         refine wpAnyH_ready (rs := [13]) (by kernel_rfl) (by simp) ?_
         refine AllReadyH.cons rfl (fun K hK => ?_) AllReadyH.nil
         go_simp
         refine (kt _).mono ?_
         rintro e w3 ⟨rfl, hB3⟩
         have HG3 : Hid (Gb w (.slice va (layL (l.take i) big).length vc) (layL (l.take i) big) w3) := (HG.out.next ((Below.refl _ _).drew)).next hB3
         clear hB3 kt
         refine hK.out _ _ (HSS.out _ HG3.out.below) (fun hS3 => ?_)
         clear hK K
         refine wpAnyH_take (i := 14) (v := .string (c.id ++ TT)) rfl (by kernel_rfl) (by kernel_rfl) (by kernel_rfl) (fun _ _ _ h => h) (Or.inl ⟨by rfl, fun w hSw => by obtain ⟨s1, s2⟩ := hSw; go_simp⟩) hS3 ?_
         simp only [Act.put, List.getElem_toArray, List.getElem_cons_succ, List.getElem_cons_zero, List.setIfInBounds_toArray, List.set_cons_zero, List.set_cons_succ]
         refine wpAnyH_take (i := 20) (v := .string (c.id ++ TT ++ c.body)) rfl (by kernel_rfl) (by kernel_rfl) (by kernel_rfl) (fun _ _ _ h => h) (Or.inl ⟨by rfl, fun w hSw => by obtain ⟨s1, s2⟩ := hSw; go_simp⟩) hS3 ?_
         simp only [Act.put, List.getElem_toArray, List.getElem_cons_succ, List.getElem_cons_zero, List.setIfInBounds_toArray, List.set_cons_zero, List.set_cons_succ]
         refine wpAnyH_ready (rs := [21]) (by kernel_rfl) (by simp) ?_
         refine AllReadyH.cons rfl (fun K hK => ?_) AllReadyH.nil
         refine step_append_str _ rfl (.tmp 59) (.tmp 79) 107 9 rfl w i5 Tryz.underlying107 Tryz.underlying9 H5.out.1 H5.out.2.1 H5.out.2.2.1 H5.out.2.2.2 (.slice va (layL (l.take i) big).length vc) (layL (l.take i) big) rfl HG3.out (c.id ++ TT ++ c.body) rfl HLB.out ?_
         intro v4 w4 g4
         obtain ⟨va4, vc4, rfl⟩ := g4.out.shape
         refine hK.out _ _ (HSS.out _ g4.out.below) (fun hS4 => ?_)
         clear hK K
         refine wpAnyH_take (i := 22) (v := .slice va4 (layL (l.take i) big ++ bytesOf (c.id ++ TT ++ c.body)).length vc4) rfl (by kernel_rfl) (by kernel_rfl) (by kernel_rfl) (fun _ _ _ h => h) (Or.inl ⟨by rfl, fun w hSw => by obtain ⟨s1, s2⟩ := hSw; go_simp⟩) hS4 ?_
         simp only [Act.put, List.getElem_toArray, List.getElem_cons_succ, List.getElem_cons_zero, List.setIfInBounds_toArray, List.set_cons_zero, List.set_cons_succ]
         refine wpAnyH_done (by kernel_rfl) ?_ _
         clear x0 x1 x2
         have d2 := HPC.out w4 g4.out.below
         by_cases hpad : 0 ≤ c.pad
         ·have HTA : Hid (tailC c = [c.pad.toNat]) := by
           show _ = _
           unfold tailC
           rw [if_pos ⟨HODD.out, hpad⟩]
          have HB5 : Below w4.heap.size w4 (w4.alloc (.cells #[.int .u8 (c.pad.toNat : Int)] 5)) := (Below.refl _ _).alloc (Nat.le_refl _) _
          have G5 : Hid (Gb w (.slice va4 (layL (l.take i) big ++ bytesOf (c.id ++ TT ++ c.body)).length vc4) (layL (l.take i) big ++ bytesOf (c.id ++ TT ++ c.body)) (w4.alloc (.cells #[.int .u8 (c.pad.toNat : Int)] 5))) := g4.out.next HB5
          have HLB2 : Hid ((layL (l.take i) big ++ bytesOf (c.id ++ TT ++ c.body)).length + 1 ≤ 140737488355328) := by
           have h1 := layL_pre l big (i + 1)
           rw [HST.out, HTA.out, ← List.append_assoc, List.length_append] at h1
           have := HSZ.out
           simp at h1
           show _ ≤ _
           simp
           omega
          clear HB5
          obtain ⟨pn, hpn⟩ : ∃ pn : Nat, c.pad = (pn : Int) := ⟨c.pad.toNat, by omega⟩
          have hpt : c.pad.toNat = pn := by omega
          rw [hpt] at G5 HTA
          rw [hpn] at d2 hpad
          have hpb : pn ≤ 255 := by omega
          clear hpt
          generalize hLL : layL (l.take i) big ++ bytesOf (c.id ++ TT ++ c.body) = LL at *
          go_wp2_with (at_builtin; refine wpList_append_row _ rfl (.tmp 90) (.tmp 97) 107 rfl w.heap.size 5 i5 (.int .u8 0) 1 1 Tryz.underlying107 H5.out.1 H5.out.2.1 H5.out.2.2.1 H5.out.2.2.2 rfl (by decide) (.slice va4 LL.length vc4) LL.length _ rfl G5.out.own ⟨w4.heap.size, 0, none⟩ 1 1 [.int .u8 (pn : Int)] rfl rfl (fun j u hj => one_cell rfl hj) (by simp [Value.oneCell']) (by have := HLB2.out; simp only [maxLen]; omega) (by have := HLB2.out; omega) G5.out.below.size ?_; intro v6 w6 ho6 hg6)
          have HGN : Hid (Gb w v6 (layL (l.take i) big ++ (bytesOf (c.id ++ TT ++ c.body) ++ tailC c)) w6) := by
           rw [HTA.out, ← List.append_assoc, hLL]
           refine G5.out.app hg6.out ?_
           rw [List.length_append, List.map_append]
           exact ho6.out
          go_roundw
          case rel =>
           refine ⟨i + 1, by omega, by go_num, by rw [HST.out]; exact HGN.out, fun j d hj hd => ?_⟩
           by_cases e : j = i
           ·subst e
            rw [hc] at hd
            cases hd
            exact HOK.out
           ·exact HALL.out j d (by omega) hd
          case measure => simp [intOf]; omega
         ·have HTA : Hid (tailC c = []) := by
           show _ = _
           unfold tailC
           rw [if_neg (fun q => hpad q.2)]
          have HGN : Hid (Gb w (.slice va4 (layL (l.take i) big ++ bytesOf (c.id ++ TT ++ c.body)).length vc4) (layL (l.take i) big ++ (bytesOf (c.id ++ TT ++ c.body) ++ tailC c)) w4) := by
           rw [HTA.out, List.append_nil]
           exact g4.out
          go_wp2_with fail
          go_roundw
          case rel =>
           refine ⟨i + 1, by omega, by go_num, by rw [HST.out]; exact HGN.out, fun j d hj hd => ?_⟩
           by_cases e : j = i
           ·subst e
            rw [hc] at hd
            cases hd
            exact HOK.out
           ·exact HALL.out j d (by omega) hd
          case measure => simp [intOf]; omega
     ·have HLAST : Hid (decide (i + 1 = l.length) = false) := decide_eq_false hlast
      have hli : ((i : Int) == (l.length : Int) - 1) = false := by rw [beq_eq_false_iff_ne]; omega
      clear hodd hlast
      cases hid : idB c.id
      ·have hno : layOk c (decide (i + 1 = l.length)) = false := by unfold layOk; rw [hid]; rfl
       have HN := lay_no l big i c hc hno
       have HNE : Hid (layE l = 60) := HN.1
       have HNT : Hid (layT l big = ⟨#[]⟩) := HN.2
       clear HN hno
       rw [hid] at ki
       go_wp2_with fail
       refine (ki _).mono ?_
       rintro e w2 ⟨rfl, rfl⟩
       clear ki
       go_wp2_with fail
       go_ret2
       exact ⟨by rw [HNE.out, HNT.out]; rfl, HG.out.below⟩
      ·by_cases hlow : c.pad < 0
       ·have hno : layOk c (decide (i + 1 = l.length)) = false := by
         unfold layOk
         rw [hid, HODD.out, HLAST.out]
         rw [show decide ((if ((true : Bool) && false) = true then (-1 : Int) else 0) ≤ c.pad) = false from decide_eq_false (by simp; omega)]
         rfl
        have HN := lay_no l big i c hc hno
        have HNE : Hid (layE l = 60) := HN.1
        have HNT : Hid (layT l big = ⟨#[]⟩) := HN.2
        clear HN hno
        rw [hid] at ki
        go_wp2_with fail
        refine (ki _).mono ?_
        rintro e w2 ⟨rfl, rfl⟩
        clear ki
        go_wp2_with fail
        go_ret2
        exact ⟨by rw [HNE.out, HNT.out]; rfl, HG.out.below⟩
       ·by_cases hhigh : 255 < c.pad
        ·have hno : layOk c (decide (i + 1 = l.length)) = false := by
          unfold layOk
          rw [hid, HODD.out]
          rw [show decide (c.pad ≤ if (true : Bool) = true then (255 : Int) else 0) = false from decide_eq_false (by simp; omega), Bool.and_false, Bool.and_false]
         have HN := lay_no l big i c hc hno
         have HNE : Hid (layE l = 60) := HN.1
         have HNT : Hid (layT l big = ⟨#[]⟩) := HN.2
         clear HN hno
         rw [hid] at ki
         go_wp2_with fail
         refine (ki _).mono ?_
         rintro e w2 ⟨rfl, rfl⟩
         clear ki
         go_wp2_with fail
         go_ret2
         exact ⟨by rw [HNE.out, HNT.out]; rfl, HG.out.below⟩
        ·have hyes : layOk c (decide (i + 1 = l.length)) = true := by
          unfold layOk
          rw [hid, HODD.out, HLAST.out]
          rw [show decide ((if ((true : Bool) && false) = true then (-1 : Int) else 0) ≤ c.pad) = true from decide_eq_true (by simp; omega), show decide (c.pad ≤ if (true : Bool) = true then (255 : Int) else 0) = true from decide_eq_true (by simp; omega)]
          rfl
         rw [hid] at ki
         have HOK : Hid (layOk c (decide (i + 1 = l.length)) = true) := hyes
         clear hyes
         go_wp2_with fail
         refine (ki _).mono ?_
         rintro e w2 ⟨rfl, rfl⟩
         clear ki
         go_wp2_with fail
         refine wp_region_held_drew (S := fun wx => wx.cell? ⟨b, off + i * 3, none⟩ = some (.string c.id) ∧ wx.cell? ⟨b, off + i * 3 + 1, none⟩ = some (.string c.body)) (by kernel_rfl) (HSS.out _ HG.out.below.drew) (fun hS => ?_)
         refine wpAnyH_take (i := 0) (v := .slice va (layL (l.take i) big).length vc) rfl (by kernel_rfl) (by kernel_rfl) (by kernel_rfl) (fun _ _ _ h => h) (Or.inl ⟨by rfl, fun w hSw => by obtain ⟨s1, s2⟩ := hSw; go_simp⟩) hS ?_
         simp only [Act.put, List.getElem_toArray, List.getElem_cons_succ, List.getElem_cons_zero, List.setIfInBounds_toArray, List.set_cons_zero, List.set_cons_succ]
         refine wpAnyH_take (i := 1) (v := .slice (some ⟨b, off, none⟩) l.length cap) rfl (by kernel_rfl) (by kernel_rfl) (by kernel_rfl) (fun _ _ _ h => h) (Or.inl ⟨by rfl, fun w hSw => by obtain ⟨s1, s2⟩ := hSw; go_simp⟩) hS ?_
         simp only [Act.put, List.getElem_toArray, List.getElem_cons_succ, List.getElem_cons_zero, List.setIfInBounds_toArray, List.set_cons_zero, List.set_cons_succ]
         refine wpAnyH_take (i := 2) (v := .int .i64 (i : Int)) rfl (by kernel_rfl) (by kernel_rfl) (by kernel_rfl) (fun _ _ _ h => h) (Or.inl ⟨by rfl, fun w hSw => by obtain ⟨s1, s2⟩ := hSw; go_simp⟩) hS ?_
         simp only [Act.put, List.getElem_toArray, List.getElem_cons_succ, List.getElem_cons_zero, List.setIfInBounds_toArray, List.set_cons_zero, List.set_cons_succ]
         refine wpAnyH_take (i := 3) (v := .pointer (some ⟨b, off + i * 3, none⟩)) rfl (by kernel_rfl) (by kernel_rfl) (by kernel_rfl) (fun _ _ _ h => h) (Or.inl ⟨by rfl, fun w hSw => by obtain ⟨s1, s2⟩ := hSw; go_simp⟩) hS ?_
         simp only [Act.put, List.getElem_toArray, List.getElem_cons_succ, List.getElem_cons_zero, List.setIfInBounds_toArray, List.set_cons_zero, List.set_cons_succ]
         refine wpAnyH_take (i := 4) (v := .pointer (some ⟨b, off + i * 3, none⟩)) rfl (by kernel_rfl) (by kernel_rfl) (by kernel_rfl) (fun _ _ _ h => h) (Or.inl ⟨by rfl, fun w hSw => by obtain ⟨s1, s2⟩ := hSw; go_simp⟩) hS ?_
         simp only [Act.put, List.getElem_toArray, List.getElem_cons_succ, List.getElem_cons_zero, List.setIfInBounds_toArray, List.set_cons_zero, List.set_cons_succ]
         refine wpAnyH_take (i := 5) (v := .string c.id) rfl (by kernel_rfl) (by kernel_rfl) (by kernel_rfl) (fun _ _ _ h => h) (Or.inl ⟨by rfl, fun w hSw => by obtain ⟨s1, s2⟩ := hSw; go_simp⟩) hS ?_
         simp only [Act.put, List.getElem_toArray, List.getElem_cons_succ, List.getElem_cons_zero, List.setIfInBounds_toArray, List.set_cons_zero, List.set_cons_succ]
         refine wpAnyH_take (i := 6) (v := .slice (some ⟨b, off, none⟩) l.length cap) rfl (by kernel_rfl) (by kernel_rfl) (by kernel_rfl) (fun _ _ _ h => h) (Or.inl ⟨by rfl, fun w hSw => by obtain ⟨s1, s2⟩ := hSw; go_simp⟩) hS ?_
         simp only [Act.put, List.getElem_toArray, List.getElem_cons_succ, List.getElem_cons_zero, List.setIfInBounds_toArray, List.set_cons_zero, List.set_cons_succ]
         refine wpAnyH_take (i := 7) (v := .int .i64 (i : Int)) rfl (by kernel_rfl) (by kernel_rfl) (by kernel_rfl) (fun _ _ _ h => h) (Or.inl ⟨by rfl, fun w hSw => by obtain ⟨s1, s2⟩ := hSw; go_simp⟩) hS ?_
         simp only [Act.put, List.getElem_toArray, List.getElem_cons_succ, List.getElem_cons_zero, List.setIfInBounds_toArray, List.set_cons_zero, List.set_cons_succ]
         refine wpAnyH_take (i := 8) (v := .pointer (some ⟨b, off + i * 3, none⟩)) rfl (by kernel_rfl) (by kernel_rfl) (by kernel_rfl) (fun _ _ _ h => h) (Or.inl ⟨by rfl, fun w hSw => by obtain ⟨s1, s2⟩ := hSw; go_simp⟩) hS ?_
         simp only [Act.put, List.getElem_toArray, List.getElem_cons_succ, List.getElem_cons_zero, List.setIfInBounds_toArray, List.set_cons_zero, List.set_cons_succ]
         refine wpAnyH_take (i := 9) (v := .pointer (some ⟨b, off + i * 3 + 1, none⟩)) rfl (by kernel_rfl) (by kernel_rfl) (by kernel_rfl) (fun _ _ _ h => h) (Or.inl ⟨by rfl, fun w hSw => by obtain ⟨s1, s2⟩ := hSw; go_simp⟩) hS ?_
         simp only [Act.put, List.getElem_toArray, List.getElem_cons_succ, List.getElem_cons_zero, List.setIfInBounds_toArray, List.set_cons_zero, List.set_cons_succ]
         refine wpAnyH_take (i := 10) (v := .string c.body) rfl (by kernel_rfl) (by kernel_rfl) (by kernel_rfl) (fun _ _ _ h => h) (Or.inl ⟨by rfl, fun w hSw => by obtain ⟨s1, s2⟩ := hSw; go_simp⟩) hS ?_
         simp only [Act.put, List.getElem_toArray, List.getElem_cons_succ, List.getElem_cons_zero, List.setIfInBounds_toArray, List.set_cons_zero, List.set_cons_succ]
         refine wpAnyH_take (i := 11) (v := .int .i64 (c.body.size : Int)) rfl (by kernel_rfl) (by kernel_rfl) (by kernel_rfl) (fun _ _ _ h => h) (Or.inl ⟨by rfl, fun w hSw => by obtain ⟨s1, s2⟩ := hSw; go_simp⟩) hS ?_
         simp only [Act.put, List.getElem_toArray, List.getElem_cons_succ, List.getElem_cons_zero, List.setIfInBounds_toArray, List.set_cons_zero, List.set_cons_succ]
         refine wpAnyH_take (i := 12) (v := .bool big) rfl (by kernel_rfl) (by kernel_rfl) (by kernel_rfl) (fun _ _ _ h => h) (Or.inl ⟨by rfl, fun w hSw => by obtain ⟨s1, s2⟩ := hSw; go_simp⟩) hS ?_
         simp only [Act.put, List.getElem_toArray, List.getElem_cons_succ, List.getElem_cons_zero, List.setIfInBounds_toArray, List.set_cons_zero, List.set_cons_succ]
         refine wpAnyH_take (i := 15) (v := .slice (some ⟨b, off, none⟩) l.length cap) rfl (by kernel_rfl) (by kernel_rfl) (by kernel_rfl) (fun _ _ _ h => h) (Or.inl ⟨by rfl, fun w hSw => by obtain ⟨s1, s2⟩ := hSw; go_simp⟩) hS ?_
         simp only [Act.put, List.getElem_toArray, List.getElem_cons_succ, List.getElem_cons_zero, List.setIfInBounds_toArray, List.set_cons_zero, List.set_cons_succ]
         refine wpAnyH_take (i := 16) (v := .int .i64 (i : Int)) rfl (by kernel_rfl) (by kernel_rfl) (by kernel_rfl) (fun _ _ _ h => h) (Or.inl ⟨by rfl, fun w hSw => by obtain ⟨s1, s2⟩ := hSw; go_simp⟩) hS ?_
         simp only [Act.put, List.getElem_toArray, List.getElem_cons_succ, List.getElem_cons_zero, List.setIfInBounds_toArray, List.set_cons_zero, List.set_cons_succ]
         refine wpAnyH_take (i := 17) (v := .pointer (some ⟨b, off + i * 3, none⟩)) rfl (by kernel_rfl) (by kernel_rfl) (by kernel_rfl) (fun _ _ _ h => h) (Or.inl ⟨by rfl, fun w hSw => by obtain ⟨s1, s2⟩ := hSw; go_simp⟩) hS ?_
         simp only [Act.put, List.getElem_toArray, List.getElem_cons_succ, List.getElem_cons_zero, List.setIfInBounds_toArray, List.set_cons_zero, List.set_cons_succ]
         refine wpAnyH_take (i := 18) (v := .pointer (some ⟨b, off + i * 3 + 1, none⟩)) rfl (by kernel_rfl) (by kernel_rfl) (by kernel_rfl) (fun _ _ _ h => h) (Or.inl ⟨by rfl, fun w hSw => by obtain ⟨s1, s2⟩ := hSw; go_simp⟩) hS ?_
         simp only [Act.put, List.getElem_toArray, List.getElem_cons_succ, List.getElem_cons_zero, List.setIfInBounds_toArray, List.set_cons_zero, List.set_cons_succ]
         refine wpAnyH_take (i := 19) (v := .string c.body) rfl (by kernel_rfl) (by kernel_rfl) (by kernel_rfl) (fun _ _ _ h => h) (Or.inl ⟨by rfl, fun w hSw => by obtain ⟨s1, s2⟩ := hSw; go_simp⟩) hS ?_
         simp only [Act.put, List.getElem_toArray, List.getElem_cons_succ, List.getElem_cons_zero, List.setIfInBounds_toArray, List.set_cons_zero, List.set_cons_succ]
         refine wpAnyH_ready (rs := [13]) (by kernel_rfl) (by simp) ?_
         refine AllReadyH.cons rfl (fun K hK => ?_) AllReadyH.nil
         go_simp
         refine (kt _).mono ?_
         rintro e w3 ⟨rfl, hB3⟩
         have HG3 : Hid (Gb w (.slice va (layL (l.take i) big).length vc) (layL (l.take i) big) w3) := (HG.out.next ((Below.refl _ _).drew)).next hB3
         clear hB3 kt
         refine hK.out _ _ (HSS.out _ HG3.out.below) (fun hS3 => ?_)
         clear hK K
         refine wpAnyH_take (i := 14) (v := .string (c.id ++ TT)) rfl (by kernel_rfl) (by kernel_rfl) (by kernel_rfl) (fun _ _ _ h => h) (Or.inl ⟨by rfl, fun w hSw => by obtain ⟨s1, s2⟩ := hSw; go_simp⟩) hS3 ?_
         simp only [Act.put, List.getElem_toArray, List.getElem_cons_succ, List.getElem_cons_zero, List.setIfInBounds_toArray, List.set_cons_zero, List.set_cons_succ]
         refine wpAnyH_take (i := 20) (v := .string (c.id ++ TT ++ c.body)) rfl (by kernel_rfl) (by kernel_rfl) (by kernel_rfl) (fun _ _ _ h => h) (Or.inl ⟨by rfl, fun w hSw => by obtain ⟨s1, s2⟩ := hSw; go_simp⟩) hS3 ?_
         simp only [Act.put, List.getElem_toArray, List.getElem_cons_succ, List.getElem_cons_zero, List.setIfInBounds_toArray, List.set_cons_zero, List.set_cons_succ]
         refine wpAnyH_ready (rs := [21]) (by kernel_rfl) (by simp) ?_
         refine AllReadyH.cons rfl (fun K hK => ?_) AllReadyH.nil
         refine step_append_str _ rfl (.tmp 59) (.tmp 79) 107 9 rfl w i5 Tryz.underlying107 Tryz.underlying9 H5.out.1 H5.out.2.1 H5.out.2.2.1 H5.out.2.2.2 (.slice va (layL (l.take i) big).length vc) (layL (l.take i) big) rfl HG3.out (c.id ++ TT ++ c.body) rfl HLB.out ?_
         intro v4 w4 g4
         obtain ⟨va4, vc4, rfl⟩ := g4.out.shape
         refine hK.out _ _ (HSS.out _ g4.out.below) (fun hS4 => ?_)
         clear hK K
         refine wpAnyH_take (i := 22) (v := .slice va4 (layL (l.take i) big ++ bytesOf (c.id ++ TT ++ c.body)).length vc4) rfl (by kernel_rfl) (by kernel_rfl) (by kernel_rfl) (fun _ _ _ h => h) (Or.inl ⟨by rfl, fun w hSw => by obtain ⟨s1, s2⟩ := hSw; go_simp⟩) hS4 ?_
         simp only [Act.put, List.getElem_toArray, List.getElem_cons_succ, List.getElem_cons_zero, List.setIfInBounds_toArray, List.set_cons_zero, List.set_cons_succ]
         refine wpAnyH_done (by kernel_rfl) ?_ _
         clear x0 x1 x2
         have d2 := HPC.out w4 g4.out.below
         have hpad : 0 ≤ c.pad := by omega
         have HTA : Hid (tailC c = [c.pad.toNat]) := by
          show _ = _
          unfold tailC
          rw [if_pos ⟨HODD.out, hpad⟩]
         have HB5 : Below w4.heap.size w4 (w4.alloc (.cells #[.int .u8 (c.pad.toNat : Int)] 5)) := (Below.refl _ _).alloc (Nat.le_refl _) _
         have G5 : Hid (Gb w (.slice va4 (layL (l.take i) big ++ bytesOf (c.id ++ TT ++ c.body)).length vc4) (layL (l.take i) big ++ bytesOf (c.id ++ TT ++ c.body)) (w4.alloc (.cells #[.int .u8 (c.pad.toNat : Int)] 5))) := g4.out.next HB5
         have HLB2 : Hid ((layL (l.take i) big ++ bytesOf (c.id ++ TT ++ c.body)).length + 1 ≤ 140737488355328) := by
          have h1 := layL_pre l big (i + 1)
          rw [HST.out, HTA.out, ← List.append_assoc, List.length_append] at h1
          have := HSZ.out
          simp at h1
          show _ ≤ _
          simp
          omega
         clear HB5
         obtain ⟨pn, hpn⟩ : ∃ pn : Nat, c.pad = (pn : Int) := ⟨c.pad.toNat, by omega⟩
         have hpt : c.pad.toNat = pn := by omega
         rw [hpt] at G5 HTA
         rw [hpn] at d2 hpad
         have hpb : pn ≤ 255 := by omega
         clear hpt
         generalize hLL : layL (l.take i) big ++ bytesOf (c.id ++ TT ++ c.body) = LL at *
         go_wp2_with (at_builtin; refine wpList_append_row _ rfl (.tmp 90) (.tmp 97) 107 rfl w.heap.size 5 i5 (.int .u8 0) 1 1 Tryz.underlying107 H5.out.1 H5.out.2.1 H5.out.2.2.1 H5.out.2.2.2 rfl (by decide) (.slice va4 LL.length vc4) LL.length _ rfl G5.out.own ⟨w4.heap.size, 0, none⟩ 1 1 [.int .u8 (pn : Int)] rfl rfl (fun j u hj => one_cell rfl hj) (by simp [Value.oneCell']) (by have := HLB2.out; simp only [maxLen]; omega) (by have := HLB2.out; omega) G5.out.below.size ?_; intro v6 w6 ho6 hg6)
         have HGN : Hid (Gb w v6 (layL (l.take i) big ++ (bytesOf (c.id ++ TT ++ c.body) ++ tailC c)) w6) := by
          rw [HTA.out, ← List.append_assoc, hLL]
          refine G5.out.app hg6.out ?_
          rw [List.length_append, List.map_append]
          exact ho6.out
         go_roundw
         case rel =>
          refine ⟨i + 1, by omega, by go_num, by rw [HST.out]; exact HGN.out, fun j d hj hd => ?_⟩
          by_cases e : j = i
          ·subst e
           rw [hc] at hd
           cases hd
           exact HOK.out
          ·exact HALL.out j d (by omega) hd
         case measure => simp [intOf]; omega
    ·have HODD : Hid (oddC c = false) := decide_eq_false hodd
     have hmod : (c.body.size : Int) % 2 = 0 := by omega
     obtain ⟨lb, hlb⟩ : ∃ lb, decide (i + 1 = l.length) = lb := ⟨_, rfl⟩
     have HLAST : Hid (decide (i + 1 = l.length) = lb) := hlb
     clear hodd hlb
     cases hid : idB c.id
     ·have hno : layOk c (decide (i + 1 = l.length)) = false := by unfold layOk; rw [hid]; rfl
      have HN := lay_no l big i c hc hno
      have HNE : Hid (layE l = 60) := HN.1
      have HNT : Hid (layT l big = ⟨#[]⟩) := HN.2
      clear HN hno
      rw [hid] at ki
      go_wp2_with fail
      refine (ki _).mono ?_
      rintro e w2 ⟨rfl, rfl⟩
      clear ki
      go_wp2_with fail
      go_ret2
      exact ⟨by rw [HNE.out, HNT.out]; rfl, HG.out.below⟩
     ·by_cases hlow : c.pad < 0
      ·have hno : layOk c (decide (i + 1 = l.length)) = false := by
        unfold layOk
        rw [hid, HODD.out, HLAST.out]
        rw [show decide ((if ((false : Bool) && lb) = true then (-1 : Int) else 0) ≤ c.pad) = false from decide_eq_false (by simp; omega)]
        rfl
       have HN := lay_no l big i c hc hno
       have HNE : Hid (layE l = 60) := HN.1
       have HNT : Hid (layT l big = ⟨#[]⟩) := HN.2
       clear HN hno
       rw [hid] at ki
       go_wp2_with fail
       refine (ki _).mono ?_
       rintro e w2 ⟨rfl, rfl⟩
       clear ki
       go_wp2_with fail
       go_ret2
       exact ⟨by rw [HNE.out, HNT.out]; rfl, HG.out.below⟩
      ·by_cases hhigh : 0 < c.pad
       ·have hno : layOk c (decide (i + 1 = l.length)) = false := by
         unfold layOk
         rw [hid, HODD.out]
         rw [show decide (c.pad ≤ if (false : Bool) = true then (255 : Int) else 0) = false from decide_eq_false (by simp; omega), Bool.and_false, Bool.and_false]
        have HN := lay_no l big i c hc hno
        have HNE : Hid (layE l = 60) := HN.1
        have HNT : Hid (layT l big = ⟨#[]⟩) := HN.2
        clear HN hno
        rw [hid] at ki
        go_wp2_with fail
        refine (ki _).mono ?_
        rintro e w2 ⟨rfl, rfl⟩
        clear ki
        go_wp2_with fail
        go_ret2
        exact ⟨by rw [HNE.out, HNT.out]; rfl, HG.out.below⟩
       ·have hyes : layOk c (decide (i + 1 = l.length)) = true := by
         unfold layOk
         rw [hid, HODD.out, HLAST.out]
         rw [show decide ((if ((false : Bool) && lb) = true then (-1 : Int) else 0) ≤ c.pad) = true from decide_eq_true (by simp; omega), show decide (c.pad ≤ if (false : Bool) = true then (255 : Int) else 0) = true from decide_eq_true (by simp; omega)]
         rfl
        rw [hid] at ki
        have HOK : Hid (layOk c (decide (i + 1 = l.length)) = true) := hyes
        clear hyes
        go_wp2_with fail
        refine (ki _).mono ?_
        rintro e w2 ⟨rfl, rfl⟩
        clear ki
        go_wp2_with fail
        refine wp_region_held_drew (S := fun wx => wx.cell? ⟨b, off + i * 3, none⟩ = some (.string c.id) ∧ wx.cell? ⟨b, off + i * 3 + 1, none⟩ = some (.string c.body)) (by kernel_rfl) (HSS.out _ HG.out.below.drew) (fun hS => ?_)
        refine wpAnyH_take (i := 0) (v := .slice va (layL (l.take i) big).length vc) rfl (by kernel_rfl) (by kernel_rfl) (by kernel_rfl) (fun _ _ _ h => h) (Or.inl ⟨by rfl, fun w hSw => by obtain ⟨s1, s2⟩ := hSw; go_simp⟩) hS ?_
        simp only [Act.put, List.getElem_toArray, List.getElem_cons_succ, List.getElem_cons_zero, List.setIfInBounds_toArray, List.set_cons_zero, List.set_cons_succ]
        refine wpAnyH_take (i := 1) (v := .slice (some ⟨b, off, none⟩) l.length cap) rfl (by kernel_rfl) (by kernel_rfl) (by kernel_rfl) (fun _ _ _ h => h) (Or.inl ⟨by rfl, fun w hSw => by obtain ⟨s1, s2⟩ := hSw; go_simp⟩) hS ?_
        simp only [Act.put, List.getElem_toArray, List.getElem_cons_succ, List.getElem_cons_zero, List.setIfInBounds_toArray, List.set_cons_zero, List.set_cons_succ]
        refine wpAnyH_take (i := 2) (v := .int .i64 (i : Int)) rfl (by kernel_rfl) (by kernel_rfl) (by kernel_rfl) (fun _ _ _ h => h) (Or.inl ⟨by rfl, fun w hSw => by obtain ⟨s1, s2⟩ := hSw; go_simp⟩) hS ?_
        simp only [Act.put, List.getElem_toArray, List.getElem_cons_succ, List.getElem_cons_zero, List.setIfInBounds_toArray, List.set_cons_zero, List.set_cons_succ]
        refine wpAnyH_take (i := 3) (v := .pointer (some ⟨b, off + i * 3, none⟩)) rfl (by kernel_rfl) (by kernel_rfl) (by kernel_rfl) (fun _ _ _ h => h) (Or.inl ⟨by rfl, fun w hSw => by obtain ⟨s1, s2⟩ := hSw; go_simp⟩) hS ?_
        simp only [Act.put, List.getElem_toArray, List.getElem_cons_succ, List.getElem_cons_zero, List.setIfInBounds_toArray, List.set_cons_zero, List.set_cons_succ]
        refine wpAnyH_take (i := 4) (v := .pointer (some ⟨b, off + i * 3, none⟩)) rfl (by kernel_rfl) (by kernel_rfl) (by kernel_rfl) (fun _ _ _ h => h) (Or.inl ⟨by rfl, fun w hSw => by obtain ⟨s1, s2⟩ := hSw; go_simp⟩) hS ?_
        simp only [Act.put, List.getElem_toArray, List.getElem_cons_succ, List.getElem_cons_zero, List.setIfInBounds_toArray, List.set_cons_zero, List.set_cons_succ]
        refine wpAnyH_take (i := 5) (v := .string c.id) rfl (by kernel_rfl) (by kernel_rfl) (by kernel_rfl) (fun _ _ _ h => h) (Or.inl ⟨by rfl, fun w hSw => by obtain ⟨s1, s2⟩ := hSw; go_simp⟩) hS ?_
        simp only [Act.put, List.getElem_toArray, List.getElem_cons_succ, List.getElem_cons_zero, List.setIfInBounds_toArray, List.set_cons_zero, List.set_cons_succ]
        refine wpAnyH_take (i := 6) (v := .slice (some ⟨b, off, none⟩) l.length cap) rfl (by kernel_rfl) (by kernel_rfl) (by kernel_rfl) (fun _ _ _ h => h) (Or.inl ⟨by rfl, fun w hSw => by obtain ⟨s1, s2⟩ := hSw; go_simp⟩) hS ?_
        simp only [Act.put, List.getElem_toArray, List.getElem_cons_succ, List.getElem_cons_zero, List.setIfInBounds_toArray, List.set_cons_zero, List.set_cons_succ]
        refine wpAnyH_take (i := 7) (v := .int .i64 (i : Int)) rfl (by kernel_rfl) (by kernel_rfl) (by kernel_rfl) (fun _ _ _ h => h) (Or.inl ⟨by rfl, fun w hSw => by obtain ⟨s1, s2⟩ := hSw; go_simp⟩) hS ?_
        simp only [Act.put, List.getElem_toArray, List.getElem_cons_succ, List.getElem_cons_zero, List.setIfInBounds_toArray, List.set_cons_zero, List.set_cons_succ]
        refine wpAnyH_take (i := 8) (v := .pointer (some ⟨b, off + i * 3, none⟩)) rfl (by kernel_rfl) (by kernel_rfl) (by kernel_rfl) (fun _ _ _ h => h) (Or.inl ⟨by rfl, fun w hSw => by obtain ⟨s1, s2⟩ := hSw; go_simp⟩) hS ?_
        simp only [Act.put, List.getElem_toArray, List.getElem_cons_succ, List.getElem_cons_zero, List.setIfInBounds_toArray, List.set_cons_zero, List.set_cons_succ]
        refine wpAnyH_take (i := 9) (v := .pointer (some ⟨b, off + i * 3 + 1, none⟩)) rfl (by kernel_rfl) (by kernel_rfl) (by kernel_rfl) (fun _ _ _ h => h) (Or.inl ⟨by rfl, fun w hSw => by obtain ⟨s1, s2⟩ := hSw; go_simp⟩) hS ?_
        simp only [Act.put, List.getElem_toArray, List.getElem_cons_succ, List.getElem_cons_zero, List.setIfInBounds_toArray, List.set_cons_zero, List.set_cons_succ]
        refine wpAnyH_take (i := 10) (v := .string c.body) rfl (by kernel_rfl) (by kernel_rfl) (by kernel_rfl) (fun _ _ _ h => h) (Or.inl ⟨by rfl, fun w hSw => by obtain ⟨s1, s2⟩ := hSw; go_simp⟩) hS ?_
        simp only [Act.put, List.getElem_toArray, List.getElem_cons_succ, List.getElem_cons_zero, List.setIfInBounds_toArray, List.set_cons_zero, List.set_cons_succ]
        refine wpAnyH_take (i := 11) (v := .int .i64 (c.body.size : Int)) rfl (by kernel_rfl) (by kernel_rfl) (by kernel_rfl) (fun _ _ _ h => h) (Or.inl ⟨by rfl, fun w hSw => by obtain ⟨s1, s2⟩ := hSw; go_simp⟩) hS ?_
        simp only [Act.put, List.getElem_toArray, List.getElem_cons_succ, List.getElem_cons_zero, List.setIfInBounds_toArray, List.set_cons_zero, List.set_cons_succ]
        refine wpAnyH_take (i := 12) (v := .bool big) rfl (by kernel_rfl) (by kernel_rfl) (by kernel_rfl) (fun _ _ _ h => h) (Or.inl ⟨by rfl, fun w hSw => by obtain ⟨s1, s2⟩ := hSw; go_simp⟩) hS ?_
        simp only [Act.put, List.getElem_toArray, List.getElem_cons_succ, List.getElem_cons_zero, List.setIfInBounds_toArray, List.set_cons_zero, List.set_cons_succ]
        refine wpAnyH_take (i := 15) (v := .slice (some ⟨b, off, none⟩) l.length cap) rfl (by kernel_rfl) (by kernel_rfl) (by kernel_rfl) (fun _ _ _ h => h) (Or.inl ⟨by rfl, fun w hSw => by obtain ⟨s1, s2⟩ := hSw; go_simp⟩) hS ?_
        simp only [Act.put, List.getElem_toArray, List.getElem_cons_succ, List.getElem_cons_zero, List.setIfInBounds_toArray, List.set_cons_zero, List.set_cons_succ]
        refine wpAnyH_take (i := 16) (v := .int .i64 (i : Int)) rfl (by kernel_rfl) (by kernel_rfl) (by kernel_rfl) (fun _ _ _ h => h) (Or.inl ⟨by rfl, fun w hSw => by obtain ⟨s1, s2⟩ := hSw; go_simp⟩) hS ?_
        simp only [Act.put, List.getElem_toArray, List.getElem_cons_succ, List.getElem_cons_zero, List.setIfInBounds_toArray, List.set_cons_zero, List.set_cons_succ]
        refine wpAnyH_take (i := 17) (v := .pointer (some ⟨b, off + i * 3, none⟩)) rfl (by kernel_rfl) (by kernel_rfl) (by kernel_rfl) (fun _ _ _ h => h) (Or.inl ⟨by rfl, fun w hSw => by obtain ⟨s1, s2⟩ := hSw; go_simp⟩) hS ?_
        simp only [Act.put, List.getElem_toArray, List.getElem_cons_succ, List.getElem_cons_zero, List.setIfInBounds_toArray, List.set_cons_zero, List.set_cons_succ]
        refine wpAnyH_take (i := 18) (v := .pointer (some ⟨b, off + i * 3 + 1, none⟩)) rfl (by kernel_rfl) (by kernel_rfl) (by kernel_rfl) (fun _ _ _ h => h) (Or.inl ⟨by rfl, fun w hSw => by obtain ⟨s1, s2⟩ := hSw; go_simp⟩) hS ?_
        simp only [Act.put, List.getElem_toArray, List.getElem_cons_succ, List.getElem_cons_zero, List.setIfInBounds_toArray, List.set_cons_zero, List.set_cons_succ]
        refine wpAnyH_take (i := 19) (v := .string c.body) rfl (by kernel_rfl) (by kernel_rfl) (by kernel_rfl) (fun _ _ _ h => h) (Or.inl ⟨by rfl, fun w hSw => by obtain ⟨s1, s2⟩ := hSw; go_simp⟩) hS ?_
        simp only [Act.put, List.getElem_toArray, List.getElem_cons_succ, List.getElem_cons_zero, List.setIfInBounds_toArray, List.set_cons_zero, List.set_cons_succ]
        refine wpAnyH_ready (rs := [13]) (by kernel_rfl) (by simp) ?_
        refine AllReadyH.cons rfl (fun K hK => ?_) AllReadyH.nil
        go_simp
        refine (kt _).mono ?_
        rintro e w3 ⟨rfl, hB3⟩
        have HG3 : Hid (Gb w (.slice va (layL (l.take i) big).length vc) (layL (l.take i) big) w3) := (HG.out.next ((Below.refl _ _).drew)).next hB3
        clear hB3 kt
        refine hK.out _ _ (HSS.out _ HG3.out.below) (fun hS3 => ?_)
        clear hK K
        refine wpAnyH_take (i := 14) (v := .string (c.id ++ TT)) rfl (by kernel_rfl) (by kernel_rfl) (by kernel_rfl) (fun _ _ _ h => h) (Or.inl ⟨by rfl, fun w hSw => by obtain ⟨s1, s2⟩ := hSw; go_simp⟩) hS3 ?_
        simp only [Act.put, List.getElem_toArray, List.getElem_cons_succ, List.getElem_cons_zero, List.setIfInBounds_toArray, List.set_cons_zero, List.set_cons_succ]
        refine wpAnyH_take (i := 20) (v := .string (c.id ++ TT ++ c.body)) rfl (by kernel_rfl) (by kernel_rfl) (by kernel_rfl) (fun _ _ _ h => h) (Or.inl ⟨by rfl, fun w hSw => by obtain ⟨s1, s2⟩ := hSw; go_simp⟩) hS3 ?_
        simp only [Act.put, List.getElem_toArray, List.getElem_cons_succ, List.getElem_cons_zero, List.setIfInBounds_toArray, List.set_cons_zero, List.set_cons_succ]
        refine wpAnyH_ready (rs := [21]) (by kernel_rfl) (by simp) ?_
        refine AllReadyH.cons rfl (fun K hK => ?_) AllReadyH.nil
        refine step_append_str _ rfl (.tmp 59) (.tmp 79) 107 9 rfl w i5 Tryz.underlying107 Tryz.underlying9 H5.out.1 H5.out.2.1 H5.out.2.2.1 H5.out.2.2.2 (.slice va (layL (l.take i) big).length vc) (layL (l.take i) big) rfl HG3.out (c.id ++ TT ++ c.body) rfl HLB.out ?_
        intro v4 w4 g4
        obtain ⟨va4, vc4, rfl⟩ := g4.out.shape
        refine hK.out _ _ (HSS.out _ g4.out.below) (fun hS4 => ?_)
        clear hK K
        refine wpAnyH_take (i := 22) (v := .slice va4 (layL (l.take i) big ++ bytesOf (c.id ++ TT ++ c.body)).length vc4) rfl (by kernel_rfl) (by kernel_rfl) (by kernel_rfl) (fun _ _ _ h => h) (Or.inl ⟨by rfl, fun w hSw => by obtain ⟨s1, s2⟩ := hSw; go_simp⟩) hS4 ?_
        simp only [Act.put, List.getElem_toArray, List.getElem_cons_succ, List.getElem_cons_zero, List.setIfInBounds_toArray, List.set_cons_zero, List.set_cons_succ]
        refine wpAnyH_done (by kernel_rfl) ?_ _
        clear x0 x1 x2
        have HTA : Hid (tailC c = []) := by
         show _ = _
         unfold tailC
         rw [if_neg (fun q => by rw [HODD.out] at q; cases q.1)]
        have HGN : Hid (Gb w (.slice va4 (layL (l.take i) big ++ bytesOf (c.id ++ TT ++ c.body)).length vc4) (layL (l.take i) big ++ (bytesOf (c.id ++ TT ++ c.body) ++ tailC c)) w4) := by
         rw [HTA.out, List.append_nil]
         exact g4.out
        go_wp2_with fail
        go_roundw
        case rel =>
         refine ⟨i + 1, by omega, by go_num, by rw [HST.out]; exact HGN.out, fun j d hj hd => ?_⟩
         by_cases e : j = i
         ·subst e
          rw [hc] at hd
          cases hd
          exact HOK.out
         ·exact HALL.out j d (by omega) hd
        case measure => simp [intOf]; omega
   ·have hie : i = l.length := by omega
    subst hie
    rw [List.take_length] at *
    have HALL2 : ∀ (j : Nat) (c : Chk), l[j]? = some c → layOk c (decide (j + 1 = l.length)) = true := fun j c hj => HALL.out j c (List.getElem?_eq_some_iff.1 hj).1 hj
    have HN := lay_yes l big h1024 HALL2
    have HNE : Hid (layE l = 0) := HN.1
    have HNT : Hid (layT l big = textOf (layL l big)) := HN.2
    have hcv : (convert 107 9 (.slice va (layL l big).length vc)).run Tryz.prog wr = .ok (.string (textOf (layL l big))) wr := conv_own HG.out.own
    clear HN HALL2 HALL
    go_wp2_with fail
    go_ret2
    exact ⟨by rw [HNE.out, HNT.out]; rfl, HG.out.below⟩
 ·have HN := lay_many l big h1024
  have HNE : Hid (layE l = 60) := HN.1
  have HNT : Hid (layT l big = ⟨#[]⟩) := HN.2
  clear HN
  go_enter Tryz.func36, Tryz.ntmps36
  go_wp2_with fail
  go_ret2
  exact ⟨by rw [HNE.out, HNT.out]; rfl, Below.refl _ _⟩

end Go.Proofs.YtaepgjheknkojaaGreat
