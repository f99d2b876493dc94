/- Own text: the walk of lay. -/
import Derived.Test.YtaepgjheknkojaaG26x
namespace Go.Proofs.Ytaepgjheknkojaa
open Go.RowKit
set_option linter.unusedSimpArgs false
set_option linter.unusedVariables false

theorem kept_box {w w' : World} {S Q : Nat} {d : Array Value} {T : TypeId} (h : w.heap[Q]? = some (.cells d T (0, 0))) (hk : Lib.OthersKept 5 (some S) w w') (hne : Q ≠ S) (hT : T ≠ 5) : w'.heap[Q]? = some (.cells d T (0, 0)) :=
  hk Q _ h (fun q => hne (by simpa using q)) (fun c fz e => by
    have : T = 5 := by injection e
    exact hT this)
theorem below_box {w w' : World} {Q : Nat} {d : Array Value} {T : TypeId} (h : w.heap[Q]? = some (.cells d T (0, 0))) (hB : Below w.heap.size w w') : w'.heap[Q]? = some (.cells d T (0, 0)) := (hB.block _ (lt_of_block h)).trans h

theorem pad_range (c : Chk) (last : Bool) (h : layOk c last = true) (hp : hasPadB c = true) : 0 ≤ c.pad ∧ c.pad ≤ 255 := by
  rw [layOk_eq] at h
  obtain ⟨_, h⟩ := Bool.and_eq_true_iff.1 h
  unfold hasPadB at hp
  obtain ⟨ho, hn⟩ := Bool.and_eq_true_iff.1 hp
  rw [padOk_some c last ho (by simpa using hn)] at h
  obtain ⟨h1, h2⟩ := Bool.and_eq_true_iff.1 h
  exact ⟨of_decide_eq_true h1, of_decide_eq_true h2⟩
set_option maxRecDepth 20000 in
set_option maxHeartbeats 6400000 in
theorem lay_spec (z : Siz) (ah : ByteArray) (l : List Chk) (ao : Option Addr) (cap : Nat) (w : World) (hl : ChksAt w ao l) (hf : FairL l) (hst : standB l = true) (hsz : ah.size + sizeL l ≤ 140737488355328) :
    Calls Try.prog 69 #[.agg (sizC z), .string ah, .slice ao l.length cap] w fun e w' => e = .returned (.string (textOf (bytesOf ah ++ layZ z l))) ∧ Below w.heap.size w w' := by
  have hll : l.length ≤ 1024 := of_decide_eq_true (Bool.and_eq_true_iff.1 hst).1
  have HOK : Hid (∀ (i : Nat) (c : Chk), l[i]? = some c → layOk c (decide (i + 1 = l.length)) = true) := (layAll_iff l).1 (Bool.and_eq_true_iff.1 hst).2
  have HID : Hid (∀ c ∈ l, idB c.id = true) := fun c hc => by
    obtain ⟨i, hi⟩ := List.mem_iff_getElem?.1 hc
    have := HOK.out i c hi
    rw [layOk_eq] at this
    exact (Bool.and_eq_true_iff.1 this).1
  have HL : Hid (ChksAt w ao l) := hl
  have HF : Hid (FairL l) := hf
  have HLT : Hid (∀ k, (layZ z (l.take k)).length ≤ sizeL (l.take k)) := fun k => layZ_len z _ fun c hc => HID.out c (List.mem_of_mem_take hc)
  have hB0 : Below w.heap.size w ((w.alloc (.cells (sizC z) 119)).alloc (.cells #[.pointer none, .slice none 0 0] 83)) := ((Below.refl _ _).alloc (Nat.le_refl _) _).alloc (by simp) _
  have HB0 : Hid (Below w.heap.size w ((w.alloc (.cells (sizC z) 119)).alloc (.cells #[.pointer none, .slice none 0 0] 83)) ∧ ((w.alloc (.cells (sizC z) 119)).alloc (.cells #[.pointer none, .slice none 0 0] 83)).heap[w.heap.size]? = some (.cells (sizC z) 119 (0, 0)) ∧ ((w.alloc (.cells (sizC z) 119)).alloc (.cells #[.pointer none, .slice none 0 0] 83)).heap[w.heap.size + 1]? = some (.cells #[.pointer none, .slice none 0 0] 83 (0, 0))) := by
    refine ⟨hB0, ?_, ?_⟩
    · exact (((Below.refl _ _).alloc (Nat.le_refl _) _).block _ (by simp)).trans (heap_alloc_new w _)
    · rw [← show (w.alloc (.cells (sizC z) 119)).heap.size = w.heap.size + 1 from by simp]
      exact heap_alloc_new _ _
  have ks := sizeOf_spec l ao cap ((w.alloc (.cells (sizC z) 119)).alloc (.cells #[.pointer none, .slice none 0 0] 83)) (hl.below hB0) (by omega) (by omega)
  have HSI : Hid ((ah.size : Int) + (sizeL l : Int) = ((ah.size + sizeL l : Nat) : Int)) := by show _ = _; omega
  have HSZ : Hid (ah.size + sizeL l ≤ 140737488355328) := hsz
  clear hl hf hst hB0
  go_enter Try.func69, Try.ntmps69
  go_wp2_with fail
  refine ks.mono ?_
  rintro e w2 ⟨rfl, hB2⟩
  have H2 : Hid (Below w.heap.size w w2 ∧ w2.heap[w.heap.size]? = some (.cells (sizC z) 119 (0, 0)) ∧ w2.heap[w.heap.size + 1]? = some (.cells #[.pointer none, .slice none 0 0] 83 (0, 0))) :=
    ⟨HB0.out.1.trans (hB2.mono HB0.out.1.size), below_box HB0.out.2.1 hB2, below_box HB0.out.2.2 hB2⟩
  have kg := grow_spec (w.heap.size + 1) (w.heap.size + 1) (ah.size + sizeL l) w2 (Nat.le_refl _) H2.out.2.2 (Nat.le_of_lt (lt_of_block H2.out.2.2)) (by omega)
  clear ks hB2 HB0
  go_wp2_with fail
  rw [HSI.out]
  refine kg.mono ?_
  rintro e w3 ⟨rfl, hb3, hB3⟩
  have H3 : Hid (Wl w z [] w3) := ⟨by rw [hB3.block _ (Nat.lt_succ_self _)]; exact H2.out.2.1, Lib.BuilderAtF.of hb3, H2.out.1.trans (hB3.mono (Nat.le_succ _))⟩
  have kw := H3.out.write ah (by simp; omega)
  clear kg hb3 hB3 H2
  go_wp2_with fail
  refine kw.mono ?_
  rintro e w4 ⟨rfl, h4, _⟩
  clear kw H3
  go_wp2_with fail
  go_loopw [20] (fun t wr => ∃ k : Nat, k ≤ l.length ∧ t = .int .i64 (k : Int) ∧ Wl w z (bytesOf ah ++ layZ z (l.take k)) wr) (fun t _ => l.length - (intOf t).toNat)
  case atStart => exact ⟨0, Nat.zero_le _, rfl, by simpa [layZ] using h4.out⟩
  case round =>
    clear h4
    obtain ⟨k, hk, rfl, hW⟩ := hrel
    have HW : Hid (Wl w z (bytesOf ah ++ layZ z (l.take k)) wr) := hW
    clear hW
    by_cases hlt : k < l.length
    · obtain ⟨c, hc⟩ : ∃ c, l[k]? = some c := ⟨_, List.getElem?_eq_getElem hlt⟩
      have hcm : c ∈ l := List.mem_of_getElem? hc
      obtain ⟨b, off, rfl, hcl⟩ := HL.out.at k c hc
      obtain ⟨x0, x1, x2⟩ := hcl wr HW.out.below
      have HST : Hid (bytesOf ah ++ layZ z (l.take (k + 1)) = bytesOf ah ++ layZ z (l.take k) ++ (bytesOf c.id ++ bytesOf (toldT z c) ++ bytesOf c.body ++ (if hasPadB c then [c.pad.toNat] else []))) := by
        show _ = _
        rw [layZ_take z l k c hc, List.append_assoc]
        rfl
      have HLE : Hid ((bytesOf ah ++ layZ z (l.take k)).length + (8 + c.body.size + (if hasPadB c then 1 else 0)) ≤ 140737488355328) := by
        have h1 := HLT.out k
        have h2 := sizeL_take l k c hc
        have h3 := sizeL_le l (k + 1)
        have h4 := HSZ.out
        have h5 : sizeC c = 8 + c.body.size + (if hasPadB c then 1 else 0) := rfl
        show _ ≤ _
        rw [List.length_append, bytesOf_length, ← h5]
        omega
      have HFC := HF.out c hcm
      have hid4 := idB_size _ (HID.out c hcm)
      have htl : (toldT z c).size ≤ 4 := toT_size (toldN z c) z.big
      have hok := HOK.out k c hc
      have kt := told_spec z c HFC.2
      have kp := hasPad_spec c
      have HPD : Hid (hasPadB c = true → 0 ≤ c.pad ∧ c.pad ≤ 255) := fun q => pad_range c _ hok q
      have HQa : Hid ((wr.alloc (.cells (chkC c) 66)).heap[wr.heap.size]? = some (.cells (chkC c) 66 (0, 0)) ∧ w.heap.size + 1 < wr.heap.size) := ⟨heap_alloc_new wr _, bf_lt HW.out.bd⟩
      have HWa : Hid (Wl w z (bytesOf ah ++ layZ z (l.take k)) (wr.alloc (.cells (chkC c) 66))) := HW.out.next ((Below.refl _ _).alloc (Nat.le_refl _) _)
      have hle0 : (bytesOf ah ++ layZ z (l.take k)).length + 8 + c.body.size ≤ 140737488355328 := by have := HLE.out; omega
      have HLX : Hid (l.take (k + 1) = l.take (k + 1)) := rfl
      clear hcl hc hcm HFC hok HW
      generalize toldT z c = TT at *
      generalize bytesOf ah ++ layZ z (l.take k) = LL at *
      have k1 := HWa.out.write c.id (by omega)
      go_wp2_with fail
      generalize wr.alloc (.cells (chkC c) 66) = wa at *
      generalize wr.heap.size = Q at *
      refine k1.mono ?_
      rintro e w5 ⟨rfl, h5, hk5⟩
      have HQ5 : Hid (w5.heap[Q]? = some (.cells (chkC c) 66 (0, 0)) ∧ w.heap.size + 1 < Q) := ⟨kept_box HQa.out.1 hk5 (by have := HQa.out.2; omega) (by decide), HQa.out.2⟩
      have s0 := h5.out.s 0 _ rfl
      have s1 := h5.out.s 1 _ rfl
      have s2 := h5.out.s 2 _ rfl
      have d0 : w5.cell? ⟨Q, 0, none⟩ = some (.string c.id) := by rw [cell_of_row _ _ _ _ _ _ HQ5.out.1]; rfl
      have d1 : w5.cell? ⟨Q, 1, none⟩ = some (.string c.body) := by rw [cell_of_row _ _ _ _ _ _ HQ5.out.1]; rfl
      have d2 : w5.cell? ⟨Q, 2, none⟩ = some (.int .i64 c.pad) := by rw [cell_of_row _ _ _ _ _ _ HQ5.out.1]; rfl
      clear k1 hk5 HWa HQa x0 x1 x2
      go_wp2_with fail
      refine (kt w5).mono ?_
      rintro e w6 ⟨rfl, hB6⟩
      have H6 : Hid (Wl w z (LL ++ bytesOf c.id) w6) := h5.out.next hB6
      have HQ6 : Hid (w6.heap[Q]? = some (.cells (chkC c) 66 (0, 0)) ∧ w.heap.size + 1 < Q) := ⟨below_box HQ5.out.1 hB6, HQ5.out.2⟩
      have k2 := H6.out.write TT (by rw [List.length_append, bytesOf_length]; omega)
      clear kt hB6 h5 HQ5 s0 s1 s2 d0 d1 d2
      go_wp2_with fail
      refine k2.mono ?_
      rintro e w7 ⟨rfl, h7, hk7⟩
      have HQ7 : Hid (w7.heap[Q]? = some (.cells (chkC c) 66 (0, 0)) ∧ w.heap.size + 1 < Q) := ⟨kept_box HQ6.out.1 hk7 (by have := HQ6.out.2; omega) (by decide), HQ6.out.2⟩
      have k3 := h7.out.write c.body (by rw [List.length_append, List.length_append, bytesOf_length, bytesOf_length]; omega)
      have d0 : w7.cell? ⟨Q, 0, none⟩ = some (.string c.id) := by rw [cell_of_row _ _ _ _ _ _ HQ7.out.1]; rfl
      have d1 : w7.cell? ⟨Q, 1, none⟩ = some (.string c.body) := by rw [cell_of_row _ _ _ _ _ _ HQ7.out.1]; rfl
      have d2 : w7.cell? ⟨Q, 2, none⟩ = some (.int .i64 c.pad) := by rw [cell_of_row _ _ _ _ _ _ HQ7.out.1]; rfl
      clear k2 hk7 H6 HQ6
      go_wp2_with fail
      refine k3.mono ?_
      rintro e w8 ⟨rfl, h8, hk8⟩
      have HQ8 : Hid (w8.heap[Q]? = some (.cells (chkC c) 66 (0, 0)) ∧ w.heap.size + 1 < Q) := ⟨kept_box HQ7.out.1 hk8 (by have := HQ7.out.2; omega) (by decide), HQ7.out.2⟩
      clear k3 hk8 h7 HQ7 d0 d1 d2
      have d0 : w8.cell? ⟨Q, 0, none⟩ = some (.string c.id) := by rw [cell_of_row _ _ _ _ _ _ HQ8.out.1]; rfl
      have d1 : w8.cell? ⟨Q, 1, none⟩ = some (.string c.body) := by rw [cell_of_row _ _ _ _ _ _ HQ8.out.1]; rfl
      have d2 : w8.cell? ⟨Q, 2, none⟩ = some (.int .i64 c.pad) := by rw [cell_of_row _ _ _ _ _ _ HQ8.out.1]; rfl
      cases hpb : hasPadB c
      · rw [hpb] at kp HST
        have HN : Hid (Wl w z (LL ++ bytesOf c.id ++ bytesOf TT ++ bytesOf c.body) w8) := h8
        clear HPD h8 HLE
        go_wp2_with fail
        refine (kp w8).mono ?_
        rintro e w9 ⟨rfl, hB9⟩
        have H9 : Hid (Wl w z (LL ++ bytesOf c.id ++ bytesOf TT ++ bytesOf c.body) w9) := HN.out.next hB9
        clear kp hB9 HN HQ8 d0 d1 d2
        go_wp2_with fail
        go_roundw
        case rel => exact ⟨k + 1, by omega, by go_num, by rw [HST.out]; simpa using H9.out⟩
        case measure => simp [intOf]; omega
      · rw [hpb] at kp HST HLE
        obtain ⟨hp0, hp1⟩ := HPD.out hpb
        obtain ⟨pn, hpn⟩ : ∃ pn : Nat, c.pad = (pn : Int) := ⟨c.pad.toNat, by omega⟩
        have HPN : Hid (c.pad.toNat = pn ∧ pn < 256) := ⟨by omega, by omega⟩
        have hpl : (pn : Int) ≤ 255 := by omega
        have HD2 : Hid (c.pad = (pn : Int)) := hpn
        have hle1 : LL.length + 8 + c.body.size + 1 ≤ 140737488355328 := by have := HLE.out; simp at this; omega
        have HN : Hid (Wl w z (LL ++ bytesOf c.id ++ bytesOf TT ++ bytesOf c.body) w8) := h8
        clear HPD h8 HLE hpn hp0 hp1
        go_wp2_with fail
        refine (kp w8).mono ?_
        rintro e w9 ⟨rfl, hB9⟩
        have H9 : Hid (Wl w z (LL ++ bytesOf c.id ++ bytesOf TT ++ bytesOf c.body) w9) := HN.out.next hB9
        have HQ9 : Hid (w9.heap[Q]? = some (.cells (chkC c) 66 (0, 0))) := below_box HQ8.out.1 hB9
        have k5 := H9.out.byte pn HPN.out.2 (by simp only [List.length_append, bytesOf_length]; omega)
        clear kp hB9 HN HQ8 d0 d1 d2
        have d2 : w9.cell? ⟨Q, 2, none⟩ = some (.int .i64 (pn : Int)) := by rw [cell_of_row _ _ _ _ _ _ HQ9.out, ← HD2.out]; rfl
        go_wp2_with fail
        refine k5.mono ?_
        rintro e w10 ⟨rfl, h10, _⟩
        clear k5 d2
        go_wp2_with fail
        go_roundw
        case rel => exact ⟨k + 1, by omega, by go_num, by rw [HST.out, HPN.out.1]; simpa using h10.out⟩
        case measure => simp [intOf]; omega
    · have hke : k = l.length := by omega
      subst hke
      rw [List.take_length] at HW
      have kst := HW.out.string
      go_wp2_with fail
      refine kst.mono ?_
      rintro e w9 ⟨rfl, hB9⟩
      have HB9 : Hid (Below w.heap.size w w9) := hB9
      clear kst hB9
      go_wp2_with fail
      go_ret
      exact ⟨rfl, HB9.out⟩

end Go.Proofs.Ytaepgjheknkojaa
