/- Own text: the walks of mayHold, filled and hasRoom (aiff). -/
import Derived.Test.YtaepgjheknkojaaQ7look
import Derived.Test.YtaepgjheknkojaaG31x
import Derived.Lib.SliceRun
namespace Go.Proofs.Ytaepgjheknkojaa
open Go.RowKit
set_option linter.unusedSimpArgs false
set_option linter.unusedVariables false
theorem ccells_one : ∀ (l : List Chk) (u : Value), u ∈ ccells l → u.oneCell' = true := by
  intro l u hu
  unfold ccells at hu
  obtain ⟨c, _, hc⟩ := List.mem_flatMap.1 hu
  simp at hc
  rcases hc with rfl | rfl | rfl <;> rfl
theorem ccells_at {w : World} {b off : Nat} {l : List Chk} (hc : ∀ i c, l[i]? = some c → w.cell? ⟨b, off + i * 3, none⟩ = some (.string c.id) ∧ w.cell? ⟨b, off + i * 3 + 1, none⟩ = some (.string c.body) ∧ w.cell? ⟨b, off + i * 3 + 2, none⟩ = some (.int .i64 c.pad)) :
    ∀ j u, (ccells l)[j]? = some u → w.cell? ((⟨b, off, none⟩ : Addr).add j) = some u := by
  intro j u hj
  have hjl := (List.getElem?_eq_some_iff.1 hj).1
  rw [ccells_length] at hjl
  have hil : j / 3 < l.length := by omega
  have hi : l[j / 3]? = some l[j / 3] := List.getElem?_eq_getElem hil
  obtain ⟨g0, g1, g2⟩ := ccells_get l (j / 3) _ hi
  obtain ⟨q0, q1, q2⟩ := hc (j / 3) _ hi
  rw [Addr.add_mid]
  have hm : j = j / 3 * 3 ∨ j = j / 3 * 3 + 1 ∨ j = j / 3 * 3 + 2 := by omega
  rcases hm with e | e | e
  · have hj2 := hj
    rw [e, g0] at hj2
    rw [e, q0]
    exact hj2
  · have hj2 := hj
    rw [e, g1] at hj2
    rw [e, ← Nat.add_assoc, q1]
    exact hj2
  · have hj2 := hj
    rw [e, g2] at hj2
    rw [e, ← Nat.add_assoc, q2]
    exact hj2

set_option maxRecDepth 20000 in
set_option maxHeartbeats 3200000 in
theorem sclone_spec (l : List Chk) (ao : Option Addr) (cap : Nat) (w : World) (hl : ChksAt w ao l) (hll : l.length ≤ 3500000000000) :
    Calls Try.prog 46 #[.slice ao l.length cap] w fun e w' => ∃ ao' cap', e = .returned (.slice ao' l.length cap') ∧ OwnC w.heap.size ao' cap' l w' ∧ Below w.heap.size w w' := by
  cases ao with
  | none =>
    have h0 : l = [] := by
      cases l with
      | nil => rfl
      | cons c t =>
        obtain ⟨b, off, e, _⟩ := hl.lies (by simp)
        cases e
    subst h0
    have hnil : ∀ wx, (binOp .eql 25 (.slice none ([] : List Chk).length cap) (.slice none 0 0)).run Try.prog wx = .ok (.bool true) wx := fun wx => Go.Lib.run_eql_slice_nil wx 25 66 none 0 cap 0 0 Try.underlying25
    have hnil2 : ∀ wx, (binOp .eql 25 (.slice none 0 cap) (.slice none 0 0)).run Try.prog wx = .ok (.bool true) wx := hnil
    go_enter Try.func46, Try.ntmps46
    go_wp2_with fail
    go_ret
    exact ⟨none, 0, rfl, World.ownsRow_nil _ _ _ _, Below.refl _ _⟩
  | some ad =>
    obtain ⟨iK, hK0, hK1, hK2, hK3⟩ := info_parts5 infoK3
    have HIK : Hid (Try.prog.info? 66 = some iK ∧ iK.zero = some (.agg zeroK) ∧ iK.size = 3 ∧ iK.bytes = 40) := ⟨hK0, hK1, hK2, hK3⟩
    have HN : Hid (∀ wx, Below w.heap.size w wx → ∀ j u, (ccells l)[j]? = some u → wx.cell? (ad.add j) = some u) := fun wx hx j u hj => by
      have hjl := (List.getElem?_eq_some_iff.1 hj).1
      rw [ccells_length] at hjl
      obtain ⟨b, off, e, hc⟩ := (hl.below hx).lies (by omega)
      cases e
      exact ccells_at hc j u hj
    have HO0 : Hid (((w.alloc (.cells #[] 66))).ownsRow w.heap.size 66 3 (.slice (some ⟨w.heap.size, 0, none⟩) 0 0) 0 [] ∧ Below w.heap.size w (w.alloc (.cells #[] 66))) := ⟨⟨rfl, Or.inr ⟨w.heap.size, 0, #[], rfl, Nat.le_refl _, heap_alloc_new w _, Nat.le_refl _, Nat.zero_le _, rfl, rfl⟩⟩, belA _ _⟩
    have hnil : ∀ wx, (binOp .eql 25 (.slice (some ad) l.length cap) (.slice none 0 0)).run Try.prog wx = .ok (.bool false) wx := fun wx => Go.Lib.run_eql_slice_nil wx 25 66 (some ad) l.length cap 0 0 Try.underlying25
    clear hl hK0 hK1 hK2 hK3
    go_enter Try.func46, Try.ntmps46
    go_wp2_with (at_builtin; refine wpList_append_row _ rfl (.tmp 5) (.tmp 6) 25 rfl w.heap.size 66 iK (.agg zeroK) 3 40 Try.underlying25 HIK.out.1 HIK.out.2.1 HIK.out.2.2.1 HIK.out.2.2.2 rfl (by decide) (.slice (some ⟨w.heap.size, 0, none⟩) 0 0) 0 _ rfl HO0.out.1 ad l.length cap (ccells l) rfl (ccells_length l) (HN.out _ HO0.out.2) (ccells_one l) (by simp only [maxLen]; omega) (by omega) HO0.out.2.size ?_; intro v6 w6 ho6 hg6)
    go_ret
    have ho := ho6.out
    rw [Nat.zero_add, List.nil_append] at ho
    have hB : Below w.heap.size w w6 := grown_to hg6.out HO0.out.2 HO0.out.2.size (fun k e => (HO0.out.1.lt k e).1)
    obtain ⟨ao', cap', e, _⟩ := ChksAt.own ho
    subst e
    exact ⟨ao', cap', rfl, ho, hB⟩

set_option maxRecDepth 20000 in
set_option maxHeartbeats 3200000 in
theorem mayHold_none (x : Com) (l : List Chk) (d : ByteArray) (ao : Option Addr) (cap : Nat) (w : World) :
    Calls Try.prog 19 #[.agg (filC x (-1)), .slice ao l.length cap, .string d] w fun e w' => e = .returned (.bool (holdB l (-1) d)) ∧ Below w.heap.size w w' := by
  have HB0 : Hid (Below w.heap.size w (w.alloc (.cells (filC x (-1)) 46))) := belA _ _
  have HH : Hid (holdB l (-1) d = d.toList.isEmpty) := rfl
  go_enter Try.func19, Try.ntmps19
  go_wp2_with fail
  go_ret
  exact ⟨by rw [HH.out]; first | rfl | simp, HB0.out⟩
set_option maxRecDepth 20000 in
set_option maxHeartbeats 3200000 in
theorem mayHold_some (x : Com) (l : List Chk) (i : Nat) (c : Chk) (hc : l[i]? = some c) (d : ByteArray) (ao : Option Addr) (cap : Nat) (w : World) (hl : ChksAt w ao l) (hll : l.length ≤ 9000000000000000) :
    Calls Try.prog 19 #[.agg (filC x (i : Int)), .slice ao l.length cap, .string d] w fun e w' => e = .returned (.bool (holdB l (i : Int) d)) ∧ Below w.heap.size w w' := by
  have hil := (List.getElem?_eq_some_iff.1 hc).1
  obtain ⟨b, off, rfl, hcl⟩ := hl.at i c hc
  have HB0 : Hid (Below w.heap.size w (w.alloc (.cells (filC x (i : Int)) 46))) := belA _ _
  obtain ⟨x0, x1, x2⟩ := hcl _ HB0.out
  have hi1 : ((i : Int) == -1) = false := by
    rw [beq_eq_false_iff_ne]
    omega
  have HH : Hid (holdB l (i : Int) d = (stB c.body && stI c.body == (c.body.size : Int))) := by
    show _ = _
    unfold holdB
    rw [hi1, atC_get l i c hc]
    rfl
  have kst := startOf_spec c.body
  clear hl hcl hc
  cases hst : stB c.body
  · rw [hst] at kst HH
    generalize stI c.body = SI at *
    go_enter Try.func19, Try.ntmps19
    go_wp2_with fail
    refine (kst _).mono ?_
    rintro e w2 ⟨rfl, rfl⟩
    clear kst
    go_wp2_with fail
    go_ret
    exact ⟨by rw [HH.out]; rfl, HB0.out⟩
  · rw [hst] at kst HH
    generalize stI c.body = SI at *
    go_enter Try.func19, Try.ntmps19
    go_wp2_with fail
    refine (kst _).mono ?_
    rintro e w2 ⟨rfl, rfl⟩
    clear kst
    go_wp2_with fail
    go_ret
    exact ⟨by rw [HH.out]; rfl, HB0.out⟩
/-- What filled answers. -/
def GivesL7 (w : World) (L : List Chk) (e : Ending) (w' : World) : Prop := ∃ ao' cap', e = .returned (.slice ao' L.length cap') ∧ OwnC w.heap.size ao' cap' L w' ∧ Below w.heap.size w w'
set_option maxRecDepth 20000 in
set_option maxHeartbeats 3200000 in
theorem filled7_none (x : Com) (l : List Chk) (d : ByteArray) (ao : Option Addr) (cap : Nat) (w : World) (hl : ChksAt w ao l) (hll : l.length ≤ 3500000000000) :
    Calls Try.prog 21 #[.agg (filC x (-1)), .slice ao l.length cap, .string d] w (GivesL7 w (filL l (-1) d)) := by
  have HB0 : Hid (Box w.heap.size (filC x (-1)) 46 (w.alloc (.cells (filC x (-1)) 46)) ∧ Below w.heap.size w (w.alloc (.cells (filC x (-1)) 46))) := ⟨Box.new _ _ _, belA _ _⟩
  have kc := sclone_spec l ao cap _ (hl.below HB0.out.2) hll
  have HF : Hid (filL l (-1) d = l) := rfl
  clear hl
  go_enter Try.func21, Try.ntmps21
  go_wp2_with fail
  refine kc.mono ?_
  rintro e w2 ⟨ao', cap', rfl, ho2, hB2⟩
  have H2 : Hid (Box w.heap.size (filC x (-1)) 46 w2 ∧ Below w.heap.size w w2 ∧ OwnC w.heap.size ao' cap' l w2) := ⟨HB0.out.1.next hB2, below_on HB0.out.2 hB2, ho2.mono HB0.out.2.size⟩
  have f5 := H2.out.1.c 5 _ rfl
  clear kc ho2 hB2 HB0
  go_wp2_with fail
  go_ret
  exact ⟨ao', cap', by rw [HF.out]; rfl, by rw [HF.out]; exact H2.out.2.2, H2.out.2.1⟩
set_option maxRecDepth 20000 in
set_option maxHeartbeats 3200000 in
theorem filled7_some (x : Com) (l : List Chk) (i : Nat) (c : Chk) (hc : l[i]? = some c) (d : ByteArray) (hsz : c.body.size + d.size ≤ 9000000000000000000) (ao : Option Addr) (cap : Nat) (w : World) (hl : ChksAt w ao l) (hll : l.length ≤ 3500000000000) :
    Calls Try.prog 21 #[.agg (filC x (i : Int)), .slice ao l.length cap, .string d] w (GivesL7 w (filL l (i : Int) d)) := by
  have hil := (List.getElem?_eq_some_iff.1 hc).1
  have HB0 : Hid (Box w.heap.size (filC x (i : Int)) 46 (w.alloc (.cells (filC x (i : Int)) 46)) ∧ Below w.heap.size w (w.alloc (.cells (filC x (i : Int)) 46))) := ⟨Box.new _ _ _, belA _ _⟩
  have kc := sclone_spec l ao cap _ (hl.below HB0.out.2) hll
  have hsb : ¬ (9223372036854775807 < c.body.size + d.size) := by omega
  have HCI : Hid (l[i]? = some c) := hc
  have HF : Hid (filL l (i : Int) d = l.set i ⟨c.id, c.body ++ d, c.pad⟩) := by
    show _ = _
    unfold filL
    rw [if_neg (by omega), atC_get l i c hc, Int.toNat_natCast]
    rfl
  have hi1 : ((i : Int) != -1) = true := by
    rw [bne_iff_ne]
    omega
  clear hl hc hsz
  go_enter Try.func21, Try.ntmps21
  go_wp2_with fail
  refine kc.mono ?_
  rintro e w2 ⟨ao', cap', rfl, ho2, hB2⟩
  have H2 : Hid (Box w.heap.size (filC x (i : Int)) 46 w2 ∧ Below w.heap.size w w2 ∧ OwnC (w.heap.size + 1) ao' cap' l w2) := ⟨HB0.out.1.next hB2, below_on HB0.out.2 hB2, by
    have := ho2
    rw [show (w.alloc (.cells (filC x (i : Int)) 46)).heap.size = w.heap.size + 1 from by simp] at this
    exact this⟩
  have f5 := H2.out.1.c 5 _ rfl
  obtain ⟨g, rfl, hBg, hgw, x0, x1, x2, hfz⟩ := H2.out.2.2.spot i c HCI.out
  have z1 := hfz (i * 3 + 1)
  clear kc ho2 hB2 HB0 hfz
  go_wp2_with fail
  go_ret
  refine ⟨some ⟨g, 0, none⟩, cap', by rw [HF.out, List.length_set]; rfl, ?_, H2.out.2.1.setCell (by show w.heap.size ≤ g; omega) _⟩
  rw [HF.out]
  exact (H2.out.2.2.set i c HCI.out (c.body ++ d)).mono (by omega)
theorem bodL_take (l : List Chk) (k : Nat) (c : Chk) (h : l[k]? = some c) : bodL (l.take (k + 1)) = bodL (l.take k) + c.body.size := by
  obtain ⟨hi, rfl⟩ := List.getElem?_eq_some_iff.1 h
  unfold bodL
  rw [List.take_succ_eq_append_getElem hi, List.map_append, List.sum_append]
  simp
theorem bodL_le (l : List Chk) (k : Nat) : bodL (l.take k) ≤ bodL l := by
  have h : bodL l = bodL (l.take k) + bodL (l.drop k) := by
    unfold bodL
    rw [← List.sum_append, ← List.map_append, List.take_append_drop]
  omega
set_option maxRecDepth 20000 in
set_option maxHeartbeats 3200000 in
theorem hasRoom_spec (l : List Chk) (ao : Option Addr) (cap : Nat) (w : World) (hl : ChksAt w ao l) (hll : l.length ≤ 9000000000000000) (hbs : ∀ c ∈ l, c.body.size ≤ 9000000000000000000) :
    Calls Try.prog 44 #[.slice ao l.length cap] w fun e w' => e = .returned (.bool (roomB l)) ∧ Below w.heap.size w w' := by
  have HL : Hid (ChksAt w ao l) := hl
  have HBS : Hid (∀ c ∈ l, c.body.size ≤ 9000000000000000000) := hbs
  clear hl hbs
  go_enter Try.func44, Try.ntmps44
  go_wp2_with fail
  go_loopw [3, 8] (fun r t wr => ∃ k n : Nat, k ≤ l.length ∧ n = bodL (l.take k) ∧ n ≤ 67108864 ∧ r = .int .i64 (67108864 - (n : Int)) ∧ t = .int .i64 (k : Int) ∧ Below w.heap.size w wr) (fun _ t _ => l.length - (intOf t).toNat)
  case atStart => exact ⟨0, 0, Nat.zero_le _, rfl, by omega, rfl, rfl, Below.refl _ _⟩
  case round =>
    obtain ⟨k, n, hk, hn, hn2, rfl, rfl, hB⟩ := hrel
    have HN : Hid (n = bodL (l.take k)) := hn
    have HB : Hid (Below w.heap.size w wr) := hB
    clear hn hB
    by_cases hlt : k < l.length
    · obtain ⟨c, hc⟩ : ∃ c, l[k]? = some c := ⟨_, List.getElem?_eq_getElem hlt⟩
      obtain ⟨b, off, rfl, hcl⟩ := HL.out.at k c hc
      obtain ⟨x0, x1, x2⟩ := hcl wr HB.out
      have hcb := HBS.out c (List.mem_of_getElem? hc)
      have HST : Hid (bodL (l.take (k + 1)) = n + c.body.size) := by
        show _ = _
        rw [bodL_take l k c hc, HN.out]
      have HBA : Hid (Below w.heap.size w (wr.alloc (.cells (chkC c) 66))) := HB.out.alloc HB.out.size _
      clear hcl hc
      by_cases hneg : n + c.body.size ≤ 67108864
      · have hd : decide ((67108864 : Int) - (n : Int) - (c.body.size : Int) < 0) = false := decide_eq_false (by omega)
        go_wp2_with fail
        go_roundw
        case rel => exact ⟨k + 1, n + c.body.size, by omega, HST.out.symm, by omega, by go_num, by go_num, HBA.out⟩
        case measure => simp [intOf]; omega
      · have HR : Hid (roomB l = false) := by
          show _ = _
          unfold roomB
          have := bodL_le l (k + 1)
          rw [HST.out] at this
          exact decide_eq_false (by omega)
        have hd : decide ((67108864 : Int) - (n : Int) - (c.body.size : Int) < 0) = true := decide_eq_true (by omega)
        go_wp2_with fail
        go_ret
        exact ⟨by rw [HR.out]; rfl, HBA.out⟩
    · have HR : Hid (roomB l = true) := by
        show _ = _
        unfold roomB
        have : l.take k = l := List.take_of_length_le (by omega)
        rw [← this, ← HN.out]
        exact decide_eq_true hn2
      go_wp2_with fail
      go_ret
      exact ⟨by rw [HR.out]; rfl, HB.out⟩

end Go.Proofs.Ytaepgjheknkojaa
