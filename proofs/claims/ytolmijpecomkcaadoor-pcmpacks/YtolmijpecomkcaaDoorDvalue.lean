/- Own text: the walks of the program's 'Value' and 'Of'. -/
import Derived.Test.YtolmijpecomkcaaDoorDadd
namespace Go.Proofs.YtolmijpecomkcaaDoor.Dg
open Go.RowKit
set_option linter.unusedSimpArgs false
set_option linter.unusedVariables false

theorem sumV_one (q : Reg4) (f : Nat → Nat) (n : Nat) : (sumV q f n).all (·.oneCell') = true := by
  rw [Array.all_eq_true]
  intro i hi
  rw [sumV_size] at hi
  have hv : (sumV q f n)[i]? = some ((sumV q f n)[i]'(by rw [sumV_size]; exact hi)) := Array.getElem?_eq_getElem _
  by_cases h4 : i < 4
  · rw [sumV_reg _ _ _ _ h4] at hv
    rcases i with _ | _ | _ | _ | i
    · have := Option.some.inj hv; rw [← this]; rfl
    · have := Option.some.inj hv; rw [← this]; rfl
    · have := Option.some.inj hv; rw [← this]; rfl
    · have := Option.some.inj hv; rw [← this]; rfl
    · omega
  · by_cases h68 : i < 68
    · obtain ⟨k, rfl⟩ : ∃ k, i = 4 + k := ⟨i - 4, by omega⟩
      rw [sumV_block _ _ _ _ (by omega)] at hv
      have := Option.some.inj hv; rw [← this]; rfl
    · obtain rfl : i = 68 := by omega
      rw [sumV_len] at hv
      have := Option.some.inj hv; rw [← this]; rfl

set_option maxRecDepth 20000 in
set_option maxHeartbeats 4000000 in
theorem val_spec (w : World) (B p : Nat) (l : List Nat) (hT : TabsAt w) (hl : l.length ≤ 10000000000000000) (h : St B w p l) :
    Calls Tryd.prog 41 #[.pointer (some ⟨p, 0, none⟩)] w fun e w' => e = .returned (.string (textOf (md5 l))) ∧ St B w' p l ∧ Below B w w' := by
  have HS : Hid (St B w p l) := h
  obtain ⟨hBp, f, hf, hfl, h4⟩ := h
  have h2 := hT.two
  have HT : Hid (TabsAt w) := hT
  have cn := h4.cn
  have HBw : Hid (B ≤ w.heap.size) := Nat.le_trans hBp (Nat.le_of_lt h4.lt)
  have HC : Hid (w.heap[p]? = some (.cells (sumV (soFar l) f l.length) 87 (0, 0))) := h4
  have HN : Hid (∀ w', Below w.heap.size w w' → w'.heap[w.heap.size]? = some (.cells (sumV (soFar l) f l.length) 87 (0, 0)) → St w.heap.size w' w.heap.size l) := fun w' _ hr => ⟨Nat.le_refl _, f, hf, hfl, hr⟩
  have h69 : (sumV (soFar l) f l.length).size = 69 := sumV_size _ _ _
  have h1c := sumV_one (soFar l) f l.length
  have HI : Hid ((Tryd.prog.info? 87).map (·.size) = some 69) := (zero_of_info info43).2
  have hz := (zero_of_info info43).1
  have hZs : zeroA.size = 69 := by decide
  have hlt := h4.lt
  have hpn : ¬ p = w.heap.size := by omega
  clear h4 hf hfl hT
  generalize sumV (soFar l) f l.length = C at *
  generalize zeroA = Z at *
  have hcn : (w.alloc (.cells Z 87)).heap[w.heap.size]? = some (.cells Z 87 (0, 0)) := heap_alloc_new _ _
  have HZ : Hid ((w.alloc (.cells Z 87)).heap[w.heap.size]? = some (.cells Z 87 (0, 0))) := hcn
  clear hcn
  have cn2 : ((w.alloc (.cells Z 87)).setRow w.heap.size C).cell? ⟨p, 68, none⟩ = some (.int .i64 (l.length : Int)) := by
    rw [cell_setRow_other _ _ _ _ hpn, World.cell?_alloc_lt _ _ _ hlt]
    exact cn
  have HW1 : Hid (Below w.heap.size w ((w.alloc (.cells Z 87)).setRow w.heap.size C)) := ((Below.refl w.heap.size w).alloc (Nat.le_refl _) _).trans ⟨rfl, rfl, rfl, by simp, fun k hk => setRow_other _ _ _ _ (by omega)⟩
  have HR1 : Hid (((w.alloc (.cells Z 87)).setRow w.heap.size C).heap[w.heap.size]? = some (.cells C 87 (0, 0))) := setRow_heap _ _ _ _ _ _ HZ.out
  have k1 := ending_spec l.length (by omega)
  have hbl : (textOf (behind l.length)).size ≤ 73 := by
    rw [textOf_size, behind_length]
    omega
  have hbb : bytesOf (textOf (behind l.length)) = behind l.length := bytesOf_textOf _ (behind_lt _)
  have HM : Hid (mdQ l = soFar (l ++ behind l.length)) := md_piece l
  have HO : Hid (md5 l = outQ (mdQ l)) := rfl
  have KA : Hid (∀ w', TabsAt w' → St w.heap.size w' w.heap.size l → Calls Tryd.prog 40 #[.pointer (some ⟨w.heap.size, 0, none⟩), .string (textOf (behind l.length))] w' fun e w'' => e = .returned (.tuple #[]) ∧ St w.heap.size w'' w.heap.size (l ++ behind l.length) ∧ Below w.heap.size w' w'') := fun w' ht hst => by
    have := add_spec w' w.heap.size w.heap.size l (textOf (behind l.length)) ht (by omega) (by omega) hst
    rwa [hbb] at this
  clear hbb hbl
  generalize textOf (behind l.length) = tb at *
  generalize l ++ behind l.length = L2 at *
  generalize md5 l = d5 at *
  generalize mdQ l = qE at *
  generalize hn : l.length = n at *
  clear hn
  go_enter Tryd.func41, Tryd.ntmps41
  go_wp2_with (first | (refine wpList_load_row 87 p C 87 (0, 0) _ Tryd.underlying87 rfl (by rw [h69]; exact HI.out) rfl HC.out ?_) | (refine wpList_store_row rfl 87 (.tmp 3) (.tmp 8) rfl w.heap.size C rfl rfl 87 Z HZ.out (by rw [h69]; exact HI.out) (by rw [h69, hZs]) h1c ?_))
  generalize (w.alloc (.cells Z 87)).setRow w.heap.size C = w1 at *
  clear HZ hz hZs h1c cn cn2 HI
  refine (k1 w1).mono ?_
  rintro e w2 ⟨rfl, hB⟩
  have HW2 : Hid (Below w.heap.size w w2) := HW1.out.trans (hB.mono HW1.out.size)
  have HS2 : Hid (St w.heap.size w2 w.heap.size l) := HN.out w2 HW2.out (by rw [hB.block _ (lt_of_block HR1.out)]; exact HR1.out)
  clear hB k1
  go_wp2_with fail
  refine (KA.out w2 (HT.out.below h2 HW2.out) HS2.out).mono ?_
  rintro e w3 ⟨rfl, hst, hB⟩
  have HW3 : Hid (Below w.heap.size w w3) := HW2.out.trans hB
  obtain ⟨_, f3, _, _, h3⟩ := hst
  rw [← HM.out] at h3
  have c0 := h3.c0
  have c1 := h3.c1
  have c2 := h3.c2
  have c3 := h3.c3
  clear hB h3
  go_wp2_with fail
  refine (text_spec qE w3).mono ?_
  rintro e w4 ⟨rfl, hB⟩
  have HW4 : Hid (Below w.heap.size w w4) := HW3.out.trans (hB.mono HW3.out.size)
  clear hB
  go_wp2
  go_ret
  exact ⟨by rw [HO.out]; rfl, St.keep _ _ _ _ _ HS.out HW4.out, HW4.out.mono HBw.out⟩

set_option maxRecDepth 20000 in
set_option maxHeartbeats 4000000 in
theorem of_spec (w : World) (s : ByteArray) (hT : TabsAt w) (hs : s.size ≤ 10000000000000000) :
    Calls Tryd.prog 22 #[.string s] w fun e w' => e = .returned (.string (textOf (md5 (bytesOf s)))) ∧ Below w.heap.size w w' := by
  have h2 := hT.two
  have HT : Hid (TabsAt w) := hT
  have KA : Hid (∀ w' q, TabsAt w' → St w.heap.size w' q [] → Calls Tryd.prog 40 #[.pointer (some ⟨q, 0, none⟩), .string s] w' fun e w'' => e = .returned (.tuple #[]) ∧ St w.heap.size w'' q (bytesOf s) ∧ Below w.heap.size w' w'') := fun w' q ht hst => add_spec w' w.heap.size q [] s ht hs (by rw [List.length_nil]; omega) hst
  have KV : Hid (∀ w' q, TabsAt w' → St w.heap.size w' q (bytesOf s) → Calls Tryd.prog 41 #[.pointer (some ⟨q, 0, none⟩)] w' fun e w'' => e = .returned (.string (textOf (md5 (bytesOf s)))) ∧ St w.heap.size w'' q (bytesOf s) ∧ Below w.heap.size w' w'') := fun w' q ht hst => val_spec w' w.heap.size q (bytesOf s) ht (by rw [bytesOf_length]; exact hs) hst
  clear hT
  generalize textOf (md5 (bytesOf s)) = d5 at *
  generalize bytesOf s = L at *
  go_enter Tryd.func22, Tryd.ntmps22
  go_wp2_with fail
  refine (new_spec w).mono ?_
  rintro e w1 ⟨q, rfl, hst, hB⟩
  have H1 : Hid (Below w.heap.size w w1) := hB
  have S1 : Hid (St w.heap.size w1 q []) := hst
  clear hst hB
  go_wp2_with fail
  refine (KA.out w1 q (HT.out.below h2 H1.out) S1.out).mono ?_
  rintro e w2 ⟨rfl, hst, hB⟩
  have H2 : Hid (Below w.heap.size w w2) := H1.out.trans hB
  have S2 : Hid (St w.heap.size w2 q L) := hst
  clear hst hB
  go_wp2_with fail
  refine (KV.out w2 q (HT.out.below h2 H2.out) S2.out).mono ?_
  rintro e w3 ⟨rfl, hst, hB⟩
  have H3 : Hid (Below w.heap.size w w3) := H2.out.trans hB
  clear hst hB
  go_wp2
  go_ret
  exact ⟨rfl, H3.out⟩

end Go.Proofs.YtolmijpecomkcaaDoor.Dg
