/- Own text: the walks of mayHold, filled and hasRoom (aiff). the walk of open (aiff). -/
import Derived.Test.YtaepgjheknkojaaGreatQ7look
import Derived.Test.YtaepgjheknkojaaGreatG26x
import Derived.Lib.SliceRun
import Derived.Test.YtaepgjheknkojaaGreatQ7small
import Derived.Test.YtaepgjheknkojaaGreatQ6clone
import Derived.Deep.RegionHeld3
import Derived.Deep.RegionWith
import Derived.Deep.CutRange
namespace Go.Proofs.YtaepgjheknkojaaGreat
open Go.RowKit
set_option linter.unusedSimpArgs false
set_option linter.unusedVariables false
theorem ccells_one : ∀ (l : List Chk) (u : Value), u ∈ ccells l → u.oneCell' = true := by
  intro l u hu
  unfold ccells at hu
  obtain ⟨c, _, hc⟩ := List.mem_flatMap.1 hu
  simp at hc
  rcases hc with rfl | rfl | rfl <;> rfl
theorem ccells_at {w : World} {b off : Nat} {l : List Chk} (hc : ∀ i c, l[i]? = some c → w.cell? ⟨b, off + i * 3, none⟩ = some (.string c.id) ∧ w.cell? ⟨b, off + i * 3 + 1, none⟩ = some (.string c.body) ∧ w.cell? ⟨b, off + i * 3 + 2, none⟩ = some (.int .i64 c.pad)) :
    ∀ j u, (ccells l)[j]? = some u → w.cell? ((⟨b, off, none⟩ : Addr).add j) = some u := by
  intro j u hj
  have hjl := (List.getElem?_eq_some_iff.1 hj).1
  rw [ccells_length] at hjl
  have hil : j / 3 < l.length := by omega
  have hi : l[j / 3]? = some l[j / 3] := List.getElem?_eq_getElem hil
  obtain ⟨g0, g1, g2⟩ := ccells_get l (j / 3) _ hi
  obtain ⟨q0, q1, q2⟩ := hc (j / 3) _ hi
  rw [Addr.add_mid]
  have hm : j = j / 3 * 3 ∨ j = j / 3 * 3 + 1 ∨ j = j / 3 * 3 + 2 := by omega
  rcases hm with e | e | e
  · have hj2 := hj
    rw [e, g0] at hj2
    rw [e, q0]
    exact hj2
  · have hj2 := hj
    rw [e, g1] at hj2
    rw [e, ← Nat.add_assoc, q1]
    exact hj2
  · have hj2 := hj
    rw [e, g2] at hj2
    rw [e, ← Nat.add_assoc, q2]
    exact hj2

set_option maxRecDepth 20000 in
set_option maxHeartbeats 3200000 in
theorem sclone_spec (l : List Chk) (ao : Option Addr) (cap : Nat) (w : World) (hl : ChksAt w ao l) (hll : l.length ≤ 3500000000000) :
    Calls Tryz.prog 68 #[.slice ao l.length cap] w fun e w' => ∃ ao' cap', e = .returned (.slice ao' l.length cap') ∧ OwnC w.heap.size ao' cap' l w' ∧ Below w.heap.size w w' := by
  cases ao with
  | none =>
    have h0 : l = [] := by
      cases l with
      | nil => rfl
      | cons c t =>
        obtain ⟨b, off, e, _⟩ := hl.lies (by simp)
        cases e
    subst h0
    have hnil : ∀ wx, (binOp .eql 25 (.slice none ([] : List Chk).length cap) (.slice none 0 0)).run Tryz.prog wx = .ok (.bool true) wx := fun wx => Go.Lib.run_eql_slice_nil wx 25 55 none 0 cap 0 0 Tryz.underlying25
    have hnil2 : ∀ wx, (binOp .eql 25 (.slice none 0 cap) (.slice none 0 0)).run Tryz.prog wx = .ok (.bool true) wx := hnil
    go_enter Tryz.func68, Tryz.ntmps68
    go_wp2_with fail
    go_ret
    exact ⟨none, 0, rfl, World.ownsRow_nil _ _ _ _, Below.refl _ _⟩
  | some ad =>
    obtain ⟨iK, hK0, hK1, hK2, hK3⟩ := info_parts5 infoK3
    have HIK : Hid (Tryz.prog.info? 55 = some iK ∧ iK.zero = some (.agg zeroK) ∧ iK.size = 3 ∧ iK.bytes = 40) := ⟨hK0, hK1, hK2, hK3⟩
    have HN : Hid (∀ wx, Below w.heap.size w wx → ∀ j u, (ccells l)[j]? = some u → wx.cell? (ad.add j) = some u) := fun wx hx j u hj => by
      have hjl := (List.getElem?_eq_some_iff.1 hj).1
      rw [ccells_length] at hjl
      obtain ⟨b, off, e, hc⟩ := (hl.below hx).lies (by omega)
      cases e
      exact ccells_at hc j u hj
    have HO0 : Hid (((w.alloc (.cells #[] 55))).ownsRow w.heap.size 55 3 (.slice (some ⟨w.heap.size, 0, none⟩) 0 0) 0 [] ∧ Below w.heap.size w (w.alloc (.cells #[] 55))) := ⟨⟨rfl, Or.inr ⟨w.heap.size, 0, #[], rfl, Nat.le_refl _, heap_alloc_new w _, Nat.le_refl _, Nat.zero_le _, rfl, rfl⟩⟩, belA _ _⟩
    have hnil : ∀ wx, (binOp .eql 25 (.slice (some ad) l.length cap) (.slice none 0 0)).run Tryz.prog wx = .ok (.bool false) wx := fun wx => Go.Lib.run_eql_slice_nil wx 25 55 (some ad) l.length cap 0 0 Tryz.underlying25
    clear hl hK0 hK1 hK2 hK3
    go_enter Tryz.func68, Tryz.ntmps68
    go_wp2_with (at_builtin; refine wpList_append_row _ rfl (.tmp 5) (.tmp 6) 25 rfl w.heap.size 55 iK (.agg zeroK) 3 40 Tryz.underlying25 HIK.out.1 HIK.out.2.1 HIK.out.2.2.1 HIK.out.2.2.2 rfl (by decide) (.slice (some ⟨w.heap.size, 0, none⟩) 0 0) 0 _ rfl HO0.out.1 ad l.length cap (ccells l) rfl (ccells_length l) (HN.out _ HO0.out.2) (ccells_one l) (by simp only [maxLen]; omega) (by omega) HO0.out.2.size ?_; intro v6 w6 ho6 hg6)
    go_ret
    have ho := ho6.out
    rw [Nat.zero_add, List.nil_append] at ho
    have hB : Below w.heap.size w w6 := grown_to hg6.out HO0.out.2 HO0.out.2.size (fun k e => (HO0.out.1.lt k e).1)
    obtain ⟨ao', cap', e, _⟩ := ChksAt.own ho
    subst e
    exact ⟨ao', cap', rfl, ho, hB⟩

set_option maxRecDepth 20000 in
set_option maxHeartbeats 3200000 in
theorem mayHold_none (x : Com) (l : List Chk) (d : ByteArray) (ao : Option Addr) (cap : Nat) (w : World) :
    Calls Tryz.prog 32 #[.agg (filC x (-1)), .slice ao l.length cap, .string d] w fun e w' => e = .returned (.bool (holdB l (-1) d)) ∧ Below w.heap.size w w' := by
  have HB0 : Hid (Below w.heap.size w (w.alloc (.cells (filC x (-1)) 70))) := belA _ _
  have HH : Hid (holdB l (-1) d = d.toList.isEmpty) := rfl
  go_enter Tryz.func32, Tryz.ntmps32
  go_wp2_with fail
  go_ret
  exact ⟨by rw [HH.out]; first | rfl | simp, HB0.out⟩
set_option maxRecDepth 20000 in
set_option maxHeartbeats 3200000 in
theorem mayHold_some (x : Com) (l : List Chk) (i : Nat) (c : Chk) (hc : l[i]? = some c) (d : ByteArray) (ao : Option Addr) (cap : Nat) (w : World) (hl : ChksAt w ao l) (hll : l.length ≤ 9000000000000000) :
    Calls Tryz.prog 32 #[.agg (filC x (i : Int)), .slice ao l.length cap, .string d] w fun e w' => e = .returned (.bool (holdB l (i : Int) d)) ∧ Below w.heap.size w w' := by
  have hil := (List.getElem?_eq_some_iff.1 hc).1
  obtain ⟨b, off, rfl, hcl⟩ := hl.at i c hc
  have HB0 : Hid (Below w.heap.size w (w.alloc (.cells (filC x (i : Int)) 70))) := belA _ _
  obtain ⟨x0, x1, x2⟩ := hcl _ HB0.out
  have hi1 : ((i : Int) == -1) = false := by
    rw [beq_eq_false_iff_ne]
    omega
  have HH : Hid (holdB l (i : Int) d = (stB c.body && stI c.body == (c.body.size : Int))) := by
    show _ = _
    unfold holdB
    rw [hi1, atC_get l i c hc]
    rfl
  have kst := startOf_spec c.body
  clear hl hcl hc
  cases hst : stB c.body
  · rw [hst] at kst HH
    generalize stI c.body = SI at *
    go_enter Tryz.func32, Tryz.ntmps32
    go_wp2_with fail
    refine (kst _).mono ?_
    rintro e w2 ⟨rfl, rfl⟩
    clear kst
    go_wp2_with fail
    go_ret
    exact ⟨by rw [HH.out]; rfl, HB0.out⟩
  · rw [hst] at kst HH
    generalize stI c.body = SI at *
    go_enter Tryz.func32, Tryz.ntmps32
    go_wp2_with fail
    refine (kst _).mono ?_
    rintro e w2 ⟨rfl, rfl⟩
    clear kst
    go_wp2_with fail
    go_ret
    exact ⟨by rw [HH.out]; rfl, HB0.out⟩
/-- What filled answers. -/
def GivesL7 (w : World) (L : List Chk) (e : Ending) (w' : World) : Prop := ∃ ao' cap', e = .returned (.slice ao' L.length cap') ∧ OwnC w.heap.size ao' cap' L w' ∧ Below w.heap.size w w'
set_option maxRecDepth 20000 in
set_option maxHeartbeats 3200000 in
theorem filled7_none (x : Com) (l : List Chk) (d : ByteArray) (ao : Option Addr) (cap : Nat) (w : World) (hl : ChksAt w ao l) (hll : l.length ≤ 3500000000000) :
    Calls Tryz.prog 34 #[.agg (filC x (-1)), .slice ao l.length cap, .string d] w (GivesL7 w (filL l (-1) d)) := by
  have HB0 : Hid (Box w.heap.size (filC x (-1)) 70 (w.alloc (.cells (filC x (-1)) 70)) ∧ Below w.heap.size w (w.alloc (.cells (filC x (-1)) 70))) := ⟨Box.new _ _ _, belA _ _⟩
  have kc := sclone_spec l ao cap _ (hl.below HB0.out.2) hll
  have HF : Hid (filL l (-1) d = l) := rfl
  clear hl
  go_enter Tryz.func34, Tryz.ntmps34
  go_wp2_with fail
  refine kc.mono ?_
  rintro e w2 ⟨ao', cap', rfl, ho2, hB2⟩
  have H2 : Hid (Box w.heap.size (filC x (-1)) 70 w2 ∧ Below w.heap.size w w2 ∧ OwnC w.heap.size ao' cap' l w2) := ⟨HB0.out.1.next hB2, below_on HB0.out.2 hB2, ho2.mono HB0.out.2.size⟩
  have f5 := H2.out.1.c 5 _ rfl
  clear kc ho2 hB2 HB0
  go_wp2_with fail
  go_ret
  exact ⟨ao', cap', by rw [HF.out]; rfl, by rw [HF.out]; exact H2.out.2.2, H2.out.2.1⟩
set_option maxRecDepth 20000 in
set_option maxHeartbeats 3200000 in
theorem filled7_some (x : Com) (l : List Chk) (i : Nat) (c : Chk) (hc : l[i]? = some c) (d : ByteArray) (hsz : c.body.size + d.size ≤ 9000000000000000000) (ao : Option Addr) (cap : Nat) (w : World) (hl : ChksAt w ao l) (hll : l.length ≤ 3500000000000) :
    Calls Tryz.prog 34 #[.agg (filC x (i : Int)), .slice ao l.length cap, .string d] w (GivesL7 w (filL l (i : Int) d)) := by
  have hil := (List.getElem?_eq_some_iff.1 hc).1
  have HB0 : Hid (Box w.heap.size (filC x (i : Int)) 70 (w.alloc (.cells (filC x (i : Int)) 70)) ∧ Below w.heap.size w (w.alloc (.cells (filC x (i : Int)) 70))) := ⟨Box.new _ _ _, belA _ _⟩
  have kc := sclone_spec l ao cap _ (hl.below HB0.out.2) hll
  have hsb : ¬ (9223372036854775807 < c.body.size + d.size) := by omega
  have HCI : Hid (l[i]? = some c) := hc
  have HF : Hid (filL l (i : Int) d = l.set i ⟨c.id, c.body ++ d, c.pad⟩) := by
    show _ = _
    unfold filL
    rw [if_neg (by omega), atC_get l i c hc, Int.toNat_natCast]
    rfl
  have hi1 : ((i : Int) != -1) = true := by
    rw [bne_iff_ne]
    omega
  clear hl hc hsz
  go_enter Tryz.func34, Tryz.ntmps34
  go_wp2_with fail
  refine kc.mono ?_
  rintro e w2 ⟨ao', cap', rfl, ho2, hB2⟩
  have H2 : Hid (Box w.heap.size (filC x (i : Int)) 70 w2 ∧ Below w.heap.size w w2 ∧ OwnC (w.heap.size + 1) ao' cap' l w2) := ⟨HB0.out.1.next hB2, below_on HB0.out.2 hB2, by
    have := ho2
    rw [show (w.alloc (.cells (filC x (i : Int)) 70)).heap.size = w.heap.size + 1 from by simp] at this
    exact this⟩
  have f5 := H2.out.1.c 5 _ rfl
  obtain ⟨g, rfl, hBg, hgw, x0, x1, x2, hfz⟩ := H2.out.2.2.spot i c HCI.out
  have z1 := hfz (i * 3 + 1)
  clear kc ho2 hB2 HB0 hfz
  go_wp2_with fail
  go_ret
  refine ⟨some ⟨g, 0, none⟩, cap', by rw [HF.out, List.length_set]; rfl, ?_, H2.out.2.1.setCell (by show w.heap.size ≤ g; omega) _⟩
  rw [HF.out]
  exact (H2.out.2.2.set i c HCI.out (c.body ++ d)).mono (by omega)
theorem bodL_take (l : List Chk) (k : Nat) (c : Chk) (h : l[k]? = some c) : bodL (l.take (k + 1)) = bodL (l.take k) + c.body.size := by
  obtain ⟨hi, rfl⟩ := List.getElem?_eq_some_iff.1 h
  unfold bodL
  rw [List.take_succ_eq_append_getElem hi, List.map_append, List.sum_append]
  simp
theorem bodL_le (l : List Chk) (k : Nat) : bodL (l.take k) ≤ bodL l := by
  have h : bodL l = bodL (l.take k) + bodL (l.drop k) := by
    unfold bodL
    rw [← List.sum_append, ← List.map_append, List.take_append_drop]
  omega
set_option maxRecDepth 20000 in
set_option maxHeartbeats 3200000 in
theorem hasRoom_spec (l : List Chk) (ao : Option Addr) (cap : Nat) (w : World) (hl : ChksAt w ao l) (hll : l.length ≤ 9000000000000000) (hbs : ∀ c ∈ l, c.body.size ≤ 9000000000000000000) :
    Calls Tryz.prog 66 #[.slice ao l.length cap] w fun e w' => e = .returned (.bool (roomB l)) ∧ Below w.heap.size w w' := by
  have HL : Hid (ChksAt w ao l) := hl
  have HBS : Hid (∀ c ∈ l, c.body.size ≤ 9000000000000000000) := hbs
  clear hl hbs
  go_enter Tryz.func66, Tryz.ntmps66
  go_wp2_with fail
  go_loopw [3, 8] (fun r t wr => ∃ k n : Nat, k ≤ l.length ∧ n = bodL (l.take k) ∧ n ≤ 67108864 ∧ r = .int .i64 (67108864 - (n : Int)) ∧ t = .int .i64 (k : Int) ∧ Below w.heap.size w wr) (fun _ t _ => l.length - (intOf t).toNat)
  case atStart => exact ⟨0, 0, Nat.zero_le _, rfl, by omega, rfl, rfl, Below.refl _ _⟩
  case round =>
    obtain ⟨k, n, hk, hn, hn2, rfl, rfl, hB⟩ := hrel
    have HN : Hid (n = bodL (l.take k)) := hn
    have HB : Hid (Below w.heap.size w wr) := hB
    clear hn hB
    by_cases hlt : k < l.length
    · obtain ⟨c, hc⟩ : ∃ c, l[k]? = some c := ⟨_, List.getElem?_eq_getElem hlt⟩
      obtain ⟨b, off, rfl, hcl⟩ := HL.out.at k c hc
      obtain ⟨x0, x1, x2⟩ := hcl wr HB.out
      have hcb := HBS.out c (List.mem_of_getElem? hc)
      have HST : Hid (bodL (l.take (k + 1)) = n + c.body.size) := by
        show _ = _
        rw [bodL_take l k c hc, HN.out]
      have HBA : Hid (Below w.heap.size w (wr.alloc (.cells (chkC c) 55))) := HB.out.alloc HB.out.size _
      clear hcl hc
      by_cases hneg : n + c.body.size ≤ 67108864
      · have hd : decide ((67108864 : Int) - (n : Int) - (c.body.size : Int) < 0) = false := decide_eq_false (by omega)
        go_wp2_with fail
        go_roundw
        case rel => exact ⟨k + 1, n + c.body.size, by omega, HST.out.symm, by omega, by go_num, by go_num, HBA.out⟩
        case measure => simp [intOf]; omega
      · have HR : Hid (roomB l = false) := by
          show _ = _
          unfold roomB
          have := bodL_le l (k + 1)
          rw [HST.out] at this
          exact decide_eq_false (by omega)
        have hd : decide ((67108864 : Int) - (n : Int) - (c.body.size : Int) < 0) = true := decide_eq_true (by omega)
        go_wp2_with fail
        go_ret
        exact ⟨by rw [HR.out]; rfl, HBA.out⟩
    · have HR : Hid (roomB l = true) := by
        show _ = _
        unfold roomB
        have : l.take k = l := List.take_of_length_le (by omega)
        rw [← this, ← HN.out]
        exact decide_eq_true hn2
      go_wp2_with fail
      go_ret
      exact ⟨by rw [HR.out]; rfl, HB.out⟩

end Go.Proofs.YtaepgjheknkojaaGreat

namespace Go.Proofs.YtaepgjheknkojaaGreat
open Go.RowKit
set_option linter.unusedSimpArgs false
set_option linter.unusedVariables false

theorem aif_ret {wf : World} {b : Nat} {d : Array Value} (h : Box b d 27 wf) (hd : d.size = 2) (a' : Act) (n : Value) (h2 : a'.tmps.getD 2 undef = .pointer (some ⟨b, 0, none⟩)) (h3 : a'.tmps.getD 3 undef = n) :
    (results Tryz.f43 a'.tmps).run Tryz.prog wf = .ok (.tuple #[.agg d, n]) wf := by
  rw [res_two_cell rfl]
  have hld := run_loadVar_row (P := Tryz.prog) wf b 27 27 d (0, 0) _ h Tryz.underlying27 rfl (by rw [hd]; exact infoA)
  simp [h2, h3, asAddr, Result.andThen, hld]
/-- What open answers. -/
def GivesO (w : World) (s : ByteArray) (e : Ending) (w' : World) : Prop := ∃ f ao n cap, e = .returned (.tuple #[.agg #[.string f, .slice ao n cap], .int .i64 (opE s)]) ∧ Below w.heap.size w w' ∧ (opE s = 0 → f = opF s ∧ n = (opL s).length ∧ OwnC w.heap.size ao cap (opL s) w')
theorem head_eq (s : ByteArray) (h12 : 12 ≤ s.size) (hs : s.size ≤ 67108864) (hf : (s.extract 0 4).toList == formT.toList) : ((s.extract 0 12).toList == (headT7 (s.extract 8 12) (s.size : Int)).toList) = !(beI s 4 8 != (s.size : Int) - 8) := by
  have hf := eq_of_list _ _ hf
  have z4 : (s.extract 4 8).size = 4 := ext_size _ _ _ (by omega) (by omega)
  have hbt := beT_four ((s.size : Int) - 8) (by omega) (by omega)
  have e12 : s.extract 0 12 = formT ++ s.extract 4 8 ++ s.extract 8 12 := by
    rw [← hf]
    apply bytes_inj
    rw [bytesOf_append, bytesOf_append, bytes_ext, bytes_ext, bytes_ext, bytes_ext, List.drop_zero, List.drop_zero]
    have a1 : ((bytesOf s).take 8).drop 4 = ((bytesOf s).drop 4).take 4 := by rw [List.drop_take]
    have a2 : ((bytesOf s).take 12).drop 8 = ((bytesOf s).drop 8).take 4 := by rw [List.drop_take]
    rw [a1, a2, ← take_add, ← take_add]
  have key : (s.extract 0 12 = headT7 (s.extract 8 12) (s.size : Int)) ↔ beI s 4 8 = (s.size : Int) - 8 := by
    constructor
    · intro q
      rw [e12] at q
      unfold headT7 at q
      have q2 : (formT ++ s.extract 4 8 ++ s.extract 8 12).extract 4 8 = (formT ++ beT ((s.size : Int) - 8) 4 ++ s.extract 8 12).extract 4 8 := by rw [q]
      have hfz : formT.size = 4 := rfl
      rw [ext_left _ _ _ _ (by rw [ByteArray.size_append]; omega), ext_right _ _ _ _ (by omega), ext_left _ _ _ _ (by rw [ByteArray.size_append]; omega), ext_right _ _ _ _ (by omega), hfz] at q2
      rw [show (8 - 4 : Nat) = 4 from rfl, show (4 - 4 : Nat) = 0 from rfl, ext_all _ 4 z4, ext_all _ 4 hbt] at q2
      unfold beI
      rw [q2, sz_be4 _ (by omega) (by omega)]
    · intro q
      rw [e12]
      unfold headT7
      rw [← q]
      unfold beI
      rw [be_from4 _ z4]
  by_cases hq : beI s 4 8 = (s.size : Int) - 8
  · rw [key.2 hq, hq]
    simp
  · have hn : ¬ (s.extract 0 12 = headT7 (s.extract 8 12) (s.size : Int)) := fun q => hq (key.1 q)
    have h2 : (beI s 4 8 != (s.size : Int) - 8) = true := by simpa using hq
    rw [h2]
    cases q : (s.extract 0 12).toList == (headT7 (s.extract 8 12) (s.size : Int)).toList
    · rfl
    · exact absurd (eq_of_list _ _ q) hn

set_option maxRecDepth 20000 in
set_option maxHeartbeats 3200000 in
theorem open7_short (s : ByteArray) (w : World) (hs : s.size ≤ 140737488351232) (h : s.size < 12) :
    Calls Tryz.prog 43 #[.string s] w (GivesO w s) := by
  have HE : Hid (opE s = 3) := by show _ = _; unfold opE begB7; rw [decide_eq_true (by omega : (s.size : Int) < 12)]; rfl
  have hb : decide ((s.size : Int) < 12) = true := decide_eq_true (by omega)
  have HX0 : Hid (Box w.heap.size zeroW 27 (w.alloc (.cells zeroW 27)) ∧ Below w.heap.size w (w.alloc (.cells zeroW 27))) := ⟨Box.new _ _ _, belA _ _⟩
  go_enter Tryz.func43, Tryz.ntmps43
  go_wp2_with fail
  exact bodyPost_ret (v := .tuple #[.agg zeroW, .int .i64 3]) (aif_ret HX0.out.1 rfl _ _ rfl rfl) rfl ⟨⟨#[]⟩, none, 0, 0, by rw [HE.out], HX0.out.2, fun q => absurd (HE.out.symm.trans q) (by decide)⟩

set_option maxRecDepth 20000 in
set_option maxHeartbeats 3200000 in
theorem open7_noform (s : ByteArray) (w : World) (hs : s.size ≤ 140737488351232) (h : 12 ≤ s.size) (h1 : ((s.extract 0 4).toList == formT.toList) = false) :
    Calls Tryz.prog 43 #[.string s] w (GivesO w s) := by
  have HE : Hid (opE s = 3) := by show _ = _; unfold opE begB7; rw [decide_eq_false (by omega), h1]; rfl
  have hb : decide ((s.size : Int) < 12) = false := decide_eq_false (by omega)
  have sl4 : ∀ wx, (Instr.slice 9 (.string s) none (some (.int .i64 4)) none).run Tryz.prog wx = .ok (.string (s.extract 0 4)) wx := fun wx => slice_upto s 4 (by omega) wx
  have sl8 : ∀ wx, (Instr.slice 9 (.string s) (some (.int .i64 8)) (some (.int .i64 12)) none).run Tryz.prog wx = .ok (.string (s.extract 8 12)) wx := fun wx => ext_run s 8 12 (by decide) (by omega) wx
  have HX0 : Hid (Box w.heap.size zeroW 27 (w.alloc (.cells zeroW 27)) ∧ Below w.heap.size w (w.alloc (.cells zeroW 27))) := ⟨Box.new _ _ _, belA _ _⟩
  rw [form_list] at h1
  go_enter Tryz.func43, Tryz.ntmps43
  go_wp2_with fail
  exact bodyPost_ret (v := .tuple #[.agg zeroW, .int .i64 3]) (aif_ret HX0.out.1 rfl _ _ rfl rfl) rfl ⟨⟨#[]⟩, none, 0, 0, by rw [HE.out], HX0.out.2, fun q => absurd (HE.out.symm.trans q) (by decide)⟩

set_option maxRecDepth 20000 in
set_option maxHeartbeats 3200000 in
theorem open7_nokind (s : ByteArray) (w : World) (hs : s.size ≤ 140737488351232) (h : 12 ≤ s.size) (h1 : ((s.extract 0 4).toList == formT.toList) = true) (h2 : formB (s.extract 8 12) = false) :
    Calls Tryz.prog 43 #[.string s] w (GivesO w s) := by
  have HE : Hid (opE s = 3) := by show _ = _; unfold opE begB7; rw [decide_eq_false (by omega), h1, show ((s.extract 8 12).toList == aiffT.toList || (s.extract 8 12).toList == aifcT.toList) = false from h2]; rfl
  have hb : decide ((s.size : Int) < 12) = false := decide_eq_false (by omega)
  have sl4 : ∀ wx, (Instr.slice 9 (.string s) none (some (.int .i64 4)) none).run Tryz.prog wx = .ok (.string (s.extract 0 4)) wx := fun wx => slice_upto s 4 (by omega) wx
  have sl8 : ∀ wx, (Instr.slice 9 (.string s) (some (.int .i64 8)) (some (.int .i64 12)) none).run Tryz.prog wx = .ok (.string (s.extract 8 12)) wx := fun wx => ext_run s 8 12 (by decide) (by omega) wx
  have HX0 : Hid (Box w.heap.size zeroW 27 (w.alloc (.cells zeroW 27)) ∧ Below w.heap.size w (w.alloc (.cells zeroW 27))) := ⟨Box.new _ _ _, belA _ _⟩
  have kf := isForm_spec (s.extract 8 12)
  rw [h2] at kf
  rw [form_list] at h1
  go_enter Tryz.func43, Tryz.ntmps43
  go_wp2_with fail
  refine (kf _).mono ?_
  rintro e w2 ⟨rfl, rfl⟩
  clear kf
  go_wp2_with fail
  exact bodyPost_ret (v := .tuple #[.agg zeroW, .int .i64 3]) (aif_ret HX0.out.1 rfl _ _ rfl rfl) rfl ⟨⟨#[]⟩, none, 0, 0, by rw [HE.out], HX0.out.2, fun q => absurd (HE.out.symm.trans q) (by decide)⟩

set_option maxRecDepth 20000 in
set_option maxHeartbeats 3200000 in
theorem open7_large (s : ByteArray) (w : World) (hs : s.size ≤ 140737488351232) (h : 12 ≤ s.size) (h1 : ((s.extract 0 4).toList == formT.toList) = true) (h2 : formB (s.extract 8 12) = true) (h3 : 67108864 < s.size) :
    Calls Tryz.prog 43 #[.string s] w (GivesO w s) := by
  have hbeg : begB7 s = true := by unfold begB7; rw [decide_eq_false (by omega), h1]; exact h2
  have HE : Hid (opE s = 5) := by show _ = _; unfold opE; rw [hbeg, if_pos rfl, if_pos h3]
  have hb : decide ((s.size : Int) < 12) = false := decide_eq_false (by omega)
  have hc : decide ((67108864 : Int) < (s.size : Int)) = true := decide_eq_true (by omega)
  have sl4 : ∀ wx, (Instr.slice 9 (.string s) none (some (.int .i64 4)) none).run Tryz.prog wx = .ok (.string (s.extract 0 4)) wx := fun wx => slice_upto s 4 (by omega) wx
  have sl8 : ∀ wx, (Instr.slice 9 (.string s) (some (.int .i64 8)) (some (.int .i64 12)) none).run Tryz.prog wx = .ok (.string (s.extract 8 12)) wx := fun wx => ext_run s 8 12 (by decide) (by omega) wx
  have HX0 : Hid (Box w.heap.size zeroW 27 (w.alloc (.cells zeroW 27)) ∧ Below w.heap.size w (w.alloc (.cells zeroW 27))) := ⟨Box.new _ _ _, belA _ _⟩
  have kf := isForm_spec (s.extract 8 12)
  rw [h2] at kf
  rw [form_list] at h1
  go_enter Tryz.func43, Tryz.ntmps43
  go_wp2_with fail
  refine (kf _).mono ?_
  rintro e w2 ⟨rfl, rfl⟩
  clear kf
  go_wp2_with fail
  exact bodyPost_ret (v := .tuple #[.agg zeroW, .int .i64 5]) (aif_ret HX0.out.1 rfl _ _ rfl rfl) rfl ⟨⟨#[]⟩, none, 0, 0, by rw [HE.out], HX0.out.2, fun q => absurd (HE.out.symm.trans q) (by decide)⟩

set_option maxRecDepth 20000 in
set_option maxHeartbeats 3200000 in
theorem open7_head (s : ByteArray) (w : World) (hs : s.size ≤ 140737488351232) (h : 12 ≤ s.size) (h1 : ((s.extract 0 4).toList == formT.toList) = true) (h2 : formB (s.extract 8 12) = true) (h3 : s.size ≤ 67108864) (h4 : (beI s 4 8 != (s.size : Int) - 8) = true) :
    Calls Tryz.prog 43 #[.string s] w (GivesO w s) := by
  have hbeg : begB7 s = true := by unfold begB7; rw [decide_eq_false (by omega), h1]; exact h2
  have HE : Hid (opE s = 2) := by show _ = _; unfold opE; rw [hbeg, if_pos rfl, if_neg (by omega), h4]; rfl
  have hb : decide ((s.size : Int) < 12) = false := decide_eq_false (by omega)
  have hc : decide ((67108864 : Int) < (s.size : Int)) = false := decide_eq_false (by omega)
  have sl4 : ∀ wx, (Instr.slice 9 (.string s) none (some (.int .i64 4)) none).run Tryz.prog wx = .ok (.string (s.extract 0 4)) wx := fun wx => slice_upto s 4 (by omega) wx
  have sl8 : ∀ wx, (Instr.slice 9 (.string s) (some (.int .i64 8)) (some (.int .i64 12)) none).run Tryz.prog wx = .ok (.string (s.extract 8 12)) wx := fun wx => ext_run s 8 12 (by decide) (by omega) wx
  have sl12 : ∀ wx, (Instr.slice 9 (.string s) none (some (.int .i64 12)) none).run Tryz.prog wx = .ok (.string (s.extract 0 12)) wx := fun wx => slice_upto s 12 (by omega) wx
  have slr : ∀ wx, (Instr.slice 9 (.string s) (some (.int .i64 12)) none none).run Tryz.prog wx = .ok (.string (s.extract 12 s.size)) wx := fun wx => slice_from s 12 (by omega) wx
  have HX0 : Hid (Box w.heap.size zeroW 27 (w.alloc (.cells zeroW 27)) ∧ Below w.heap.size w (w.alloc (.cells zeroW 27))) := ⟨Box.new _ _ _, belA _ _⟩
  have kf := isForm_spec (s.extract 8 12)
  rw [h2] at kf
  have KH : Hid (∀ wx, Hid (Box w.heap.size zeroW 27 wx ∧ Below w.heap.size w wx) → Calls Tryz.prog 53 #[.string (s.extract 8 12), .int .i64 (s.size : Int)] wx fun e w' => e = .returned (.string (headT7 (s.extract 8 12) (s.size : Int))) ∧ Hid (Box w.heap.size zeroW 27 w' ∧ Below w.heap.size w w')) := fun wx hx =>
    (headOf_spec (s.extract 8 12) (s.size : Int) (by rw [ByteArray.size_extract]; omega) (by omega) (by omega) wx).mono fun e w' q => ⟨q.1, hx.out.1.next q.2, below_on hx.out.2 q.2⟩
  have hhd := head_eq s h h3 h1
  rw [form_list] at h1
  rw [h4] at hhd
  clear hbeg h4
  generalize headT7 (s.extract 8 12) (s.size : Int) = HT at *
  go_enter Tryz.func43, Tryz.ntmps43
  go_wp2_with fail
  refine (kf _).mono ?_
  rintro e w2 ⟨rfl, rfl⟩
  clear kf
  go_wp2_with fail
  generalize hw1 : World.alloc w _ = w1
  have HX1 : Hid (Box w.heap.size zeroW 27 w1 ∧ Below w.heap.size w w1) := by
    rw [← hw1]
    exact HX0.out
  have HD : Hid (Box w.heap.size zeroW 27 w1.drew ∧ Below w.heap.size w w1.drew) := ⟨HX1.out.1.next (belD _), below_on HX1.out.2 (belD _)⟩
  clear hw1 HX0 HX1
  go_region_held3 (fun wx => True) (trivial) ((go_at_call 53; refine (KH.out _ (by assumption)).mono ?_; rintro e w3 ⟨rfl, h3x⟩))
  have HX3 : Hid (Box w.heap.size zeroW 27 w3 ∧ Below w.heap.size w w3) := h3x
  clear h3x HD KH
  have r0 := HX3.out.1.c 0 _ rfl
  have z0 := HX3.out.1.z 0
  have r1 := HX3.out.1.c 1 _ rfl
  have z1 := HX3.out.1.z 1
  have HSM : Hid ((w3.setCell ⟨w.heap.size, 0, none⟩ (.string ⟨#[]⟩)).setCell ⟨w.heap.size, 1, none⟩ (.slice none 0 0) = w3) := by
    show _ = _
    rw [set_same7 HX3.out.1 rfl, set_same7 HX3.out.1 rfl]
  go_wp2_with fail
  rw [HSM.out]
  exact bodyPost_ret (v := .tuple #[.agg zeroW, .int .i64 2]) (aif_ret HX3.out.1 rfl _ _ rfl rfl) rfl ⟨⟨#[]⟩, none, 0, 0, by rw [HE.out], HX3.out.2, fun q => absurd (HE.out.symm.trans q) (by decide)⟩

set_option maxRecDepth 20000 in
set_option maxHeartbeats 3200000 in
theorem open7_main (s : ByteArray) (w : World) (hs : s.size ≤ 140737488351232) (h : 12 ≤ s.size) (h1 : ((s.extract 0 4).toList == formT.toList) = true) (h2 : formB (s.extract 8 12) = true) (h3 : s.size ≤ 67108864) (h4 : (beI s 4 8 != (s.size : Int) - 8) = false) :
    Calls Tryz.prog 43 #[.string s] w (GivesO w s) := by
  have hbeg : begB7 s = true := by unfold begB7; rw [decide_eq_false (by omega), h1]; exact h2
  have HE : Hid (opE s = (chunksN (s.extract 12 s.size) true).2) := by show _ = _; unfold opE; rw [hbeg, if_pos rfl, if_neg (by omega), h4]; rfl
  have HL : Hid (opL s = (chunksN (s.extract 12 s.size) true).1) := rfl
  have HF : Hid (opF s = s.extract 8 12) := rfl
  have hb : decide ((s.size : Int) < 12) = false := decide_eq_false (by omega)
  have hc : decide ((67108864 : Int) < (s.size : Int)) = false := decide_eq_false (by omega)
  have sl4 : ∀ wx, (Instr.slice 9 (.string s) none (some (.int .i64 4)) none).run Tryz.prog wx = .ok (.string (s.extract 0 4)) wx := fun wx => slice_upto s 4 (by omega) wx
  have sl8 : ∀ wx, (Instr.slice 9 (.string s) (some (.int .i64 8)) (some (.int .i64 12)) none).run Tryz.prog wx = .ok (.string (s.extract 8 12)) wx := fun wx => ext_run s 8 12 (by decide) (by omega) wx
  have sl12 : ∀ wx, (Instr.slice 9 (.string s) none (some (.int .i64 12)) none).run Tryz.prog wx = .ok (.string (s.extract 0 12)) wx := fun wx => slice_upto s 12 (by omega) wx
  have slr : ∀ wx, (Instr.slice 9 (.string s) (some (.int .i64 12)) none none).run Tryz.prog wx = .ok (.string (s.extract 12 s.size)) wx := fun wx => slice_from s 12 (by omega) wx
  have HX0 : Hid (Box w.heap.size zeroW 27 (w.alloc (.cells zeroW 27)) ∧ Below w.heap.size w (w.alloc (.cells zeroW 27))) := ⟨Box.new _ _ _, belA _ _⟩
  have kf := isForm_spec (s.extract 8 12)
  rw [h2] at kf
  have KH : Hid (∀ wx, Hid (Box w.heap.size zeroW 27 wx ∧ Below w.heap.size w wx) → Calls Tryz.prog 53 #[.string (s.extract 8 12), .int .i64 (s.size : Int)] wx fun e w' => e = .returned (.string (headT7 (s.extract 8 12) (s.size : Int))) ∧ Hid (Box w.heap.size zeroW 27 w' ∧ Below w.heap.size w w')) := fun wx hx =>
    (headOf_spec (s.extract 8 12) (s.size : Int) (by rw [ByteArray.size_extract]; omega) (by omega) (by omega) wx).mono fun e w' q => ⟨q.1, hx.out.1.next q.2, below_on hx.out.2 q.2⟩
  have hhd := head_eq s h h3 h1
  rw [form_list] at h1
  rw [h4] at hhd
  clear hbeg h4
  have KC : Hid (∀ wx, Calls Tryz.prog 76 #[.string (s.extract 12 s.size), .bool true] wx fun e w' => ∃ ao cap, e = .returned (.tuple #[.slice ao (chunksN (s.extract 12 s.size) true).1.length cap, .int .i64 (chunksN (s.extract 12 s.size) true).2]) ∧ OwnC wx.heap.size ao cap (chunksN (s.extract 12 s.size) true).1 w' ∧ Below wx.heap.size wx w') := fun wx => by
    have k := chunks_own (s.extract 12 s.size) true wx (by rw [ByteArray.size_extract]; omega)
    rw [chunk_all] at k
    exact k
  have KL := clone_spec (s.extract 8 12)
  have hcl : (s.extract 8 12).size ≤ 281474976710656 := by rw [ByteArray.size_extract]; omega
  generalize headT7 (s.extract 8 12) (s.size : Int) = HT at *
  generalize chunksN (s.extract 12 s.size) true = CN at *
  obtain ⟨L, E⟩ := CN
  simp only at HE HL KC
  go_enter Tryz.func43, Tryz.ntmps43
  go_wp2_with fail
  refine (kf _).mono ?_
  rintro e w2 ⟨rfl, rfl⟩
  clear kf
  go_wp2_with fail
  generalize hw1 : World.alloc w _ = w1
  have HX1 : Hid (Box w.heap.size zeroW 27 w1 ∧ Below w.heap.size w w1) := by
    rw [← hw1]
    exact HX0.out
  have HD : Hid (Box w.heap.size zeroW 27 w1.drew ∧ Below w.heap.size w w1.drew) := ⟨HX1.out.1.next (belD _), below_on HX1.out.2 (belD _)⟩
  clear hw1 HX0 HX1
  go_region_held3 (fun wx => True) (trivial) ((go_at_call 53; refine (KH.out _ (by assumption)).mono ?_; rintro e w3 ⟨rfl, h3x⟩))
  have HX3 : Hid (Box w.heap.size zeroW 27 w3 ∧ Below w.heap.size w w3) := h3x
  clear h3x HD KH
  go_wp2_with fail
  refine (KL w3 hcl).mono ?_
  rintro e w4 ⟨rfl, hB4⟩
  have HX4 : Hid (Box w.heap.size zeroW 27 w4 ∧ Below w.heap.size w w4) := ⟨HX3.out.1.next hB4, below_on HX3.out.2 hB4⟩
  clear KL hB4 HX3 hcl
  have r0 := HX4.out.1.c 0 _ rfl
  have z0 := HX4.out.1.z 0
  have r1 := HX4.out.1.c 1 _ rfl
  have z1 := HX4.out.1.z 1
  have HX5 : Hid (Box w.heap.size #[.string (s.extract 8 12), .slice none 0 0] 27 (w4.setCell ⟨w.heap.size, 0, none⟩ (.string (s.extract 8 12))) ∧ Below w.heap.size w (w4.setCell ⟨w.heap.size, 0, none⟩ (.string (s.extract 8 12)))) := ⟨HX4.out.1.set 0 (.string (s.extract 8 12)), HX4.out.2.setCell (Nat.le_refl _) _⟩
  go_wp2_with fail
  generalize w4.setCell ⟨w.heap.size, 0, none⟩ (.string (s.extract 8 12)) = w5 at *
  refine (KC.out _).mono ?_
  rintro e w6 ⟨ao, cap, rfl, ho6, hB6⟩
  have HX6 : Hid (Box w.heap.size #[.string (s.extract 8 12), .slice none 0 0] 27 w6 ∧ Below w.heap.size w w6) := ⟨HX5.out.1.next hB6, below_on HX5.out.2 hB6⟩
  have HO6 : Hid (OwnC w5.heap.size ao cap L w6 ∧ w.heap.size < w5.heap.size) := ⟨ho6, HX5.out.1.lt⟩
  clear KC hB6 HX5 HX4 ho6 r0 r1 z0 z1
  have r0 := HX6.out.1.c 0 _ rfl
  have z0 := HX6.out.1.z 0
  have r1 := HX6.out.1.c 1 _ rfl
  have z1 := HX6.out.1.z 1
  have HX7 : Hid (Box w.heap.size #[.string (s.extract 8 12), .slice ao L.length cap] 27 (w6.setCell ⟨w.heap.size, 1, none⟩ (.slice ao L.length cap)) ∧ Below w.heap.size w (w6.setCell ⟨w.heap.size, 1, none⟩ (.slice ao L.length cap)) ∧ OwnC w.heap.size ao cap L (w6.setCell ⟨w.heap.size, 1, none⟩ (.slice ao L.length cap))) := ⟨HX6.out.1.set 1 (.slice ao L.length cap), HX6.out.2.setCell (Nat.le_refl _) _, (HO6.out.1.other (a := ⟨w.heap.size, 1, none⟩) HO6.out.2 _).mono (Nat.le_of_lt HO6.out.2)⟩
  go_upto_region 9 with fail
  generalize w6.setCell ⟨w.heap.size, 1, none⟩ (.slice ao L.length cap) = w7 at *
  clear HX6 HO6 r0 r1 z0 z1
  have r0 := HX7.out.1.c 0 _ rfl
  have z0 := HX7.out.1.z 0
  have r1 := HX7.out.1.c 1 _ rfl
  have z1 := HX7.out.1.z 1
  have HSM : Hid ((w7.setCell ⟨w.heap.size, 0, none⟩ (.string (s.extract 8 12))).setCell ⟨w.heap.size, 1, none⟩ (.slice ao L.length cap) = w7) := by
    show _ = _
    rw [set_same7 HX7.out.1 rfl, set_same7 HX7.out.1 rfl]
  go_wp2_with fail
  rw [HSM.out]
  exact bodyPost_ret (v := .tuple #[.agg #[.string (s.extract 8 12), .slice ao L.length cap], .int .i64 E]) (aif_ret HX7.out.1 rfl _ _ rfl rfl) rfl ⟨s.extract 8 12, ao, L.length, cap, by rw [HE.out], HX7.out.2.1, fun _ => ⟨HF.out.symm, by rw [HL.out], by rw [HL.out]; exact HX7.out.2.2⟩⟩

theorem open7_spec (s : ByteArray) (w : World) (hs : s.size ≤ 140737488351232) : Calls Tryz.prog 43 #[.string s] w (GivesO w s) := by
  by_cases h : 12 ≤ s.size
  · cases h1 : (s.extract 0 4).toList == formT.toList
    · exact open7_noform s w hs h h1
    · cases h2 : formB (s.extract 8 12)
      · exact open7_nokind s w hs h h1 h2
      · by_cases h3 : 67108864 < s.size
        · exact open7_large s w hs h h1 h2 h3
        · cases h4 : beI s 4 8 != (s.size : Int) - 8
          · exact open7_main s w hs h h1 h2 (by omega) h4
          · exact open7_head s w hs h h1 h2 (by omega) h4
  · exact open7_short s w hs (by omega)

end Go.Proofs.YtaepgjheknkojaaGreat
