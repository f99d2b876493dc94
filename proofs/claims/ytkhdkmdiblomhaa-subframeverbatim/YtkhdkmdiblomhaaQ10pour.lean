/- Own text: the program's pour. -/
import Derived.Test.YtkhdkmdiblomhaaG23x
import Derived.Test.YtkhdkmdiblomhaaG15x
namespace Go.Proofs.Ytkhdkmdiblomhaa
open Go.RowKit
set_option linter.unusedSimpArgs false
set_option linter.unusedVariables false

theorem WB.look {w wx w' : World} {p : Nat} {ao0 ao : Option Addr} {B : List Nat} {K x : Nat} (h : WB w p ao0 ao B K wx) (hS : Stays (only x) wx w') (h1 : w.heap.size ≤ x) (h2 : x < K) : WB w p ao0 ao B K w' := by
  refine ⟨h.wr.only hS (by have := h.hp; omega) (fun b hb e => h.nb b hb ⟨by omega, by omega⟩), h.st.trans hS (fun i hi e => by unfold only at e; omega), h.mv, h.hp, h.nb, Nat.le_trans h.kk hS.size⟩
theorem pour_step (D : List Nat) (h01 : Bits01 D) (k pt : Nat) (h : k + pt ≤ D.length) (h64 : pt ≤ 64) :
    getE (textOf (pack D)) k pt = 0 ∧ getA (textOf (pack D)) k pt = k + pt ∧ D.take (k + pt) = D.take k ++ putB (getV (textOf (pack D)) k pt) pt ∧ 0 ≤ getV (textOf (pack D)) k pt ∧ getV (textOf (pack D)) k pt ≤ 18446744073709551615 := by
  obtain ⟨R, a1, a2⟩ := ahead_pack D (D.take k) (D.drop k) [] h01 (by rw [List.append_nil, List.take_append_drop])
  have hlk : (D.take k).length = k := by rw [List.length_take]; omega
  have hld : (D.drop k).length = D.length - k := List.length_drop
  rw [hlk] at a1 a2
  have hE : getE (textOf (pack D)) k pt = 0 := by
    unfold getE
    rw [if_neg (by omega), if_neg (by rw [Int.toNat_natCast]; simp only [List.length_nil] at a2; omega)]
  have hA : getA (textOf (pack D)) k pt = k + pt := by unfold getA; rw [if_pos hE, Int.toNat_natCast]
  obtain ⟨b0, b1, b2⟩ := get_again (textOf (pack D)) k pt hE
  have hl : (putB (getV (textOf (pack D)) k pt) pt).length = pt := by omega
  have hb := getV_bound (textOf (pack D)) k pt
  have hp : (2 : Nat) ^ pt ≤ 2 ^ 64 := Nat.pow_le_pow_right (by decide) h64
  have e64 : (2 : Nat) ^ 64 = 18446744073709551616 := by decide
  rw [Int.toNat_natCast, pow_int] at hb
  refine ⟨hE, hA, ?_, by omega, by omega⟩
  have e : (ahead (textOf (pack D)) k).take pt = putB (getV (textOf (pack D)) k pt) pt := by
    rw [b1, List.take_append_of_le_length (by omega), List.take_of_length_le (by omega)]
  rw [a1, List.take_append_of_le_length (by omega)] at e
  rw [← e, List.take_add]
set_option maxRecDepth 20000 in
set_option maxHeartbeats 3200000 in
theorem s_pour (p : Nat) (ao : Option Addr) (B : List Nat) (d : Nat) (ad : Option Addr) (D : List Nat) (h01 : Bits01 B) (h01d : Bits01 D) (hB : B.length + D.length ≤ 3000000000000) (w : World) (hw : WrB w p ao B) (hd : WrB w d ad D) :
    Calls Try.prog 24 #[.pointer (some ⟨p, 0, none⟩), .pointer (some ⟨d, 0, none⟩)] w fun e w' => e = .returned (.tuple #[]) ∧ ∃ ao', WrB w' p ao' (B ++ D) ∧ Stays (foot p ao) w w' ∧ Moved w.heap.size ao ao' := by
  have hsz : (textOf (pack D)).size ≤ 1000000000000000000 := by rw [textOf_size, pack_length]; omega
  have hs8 : D.length ≤ 8 * (textOf (pack D)).size := by rw [textOf_size, pack_length]; omega
  have kb := bytes_spec d w ad D h01d (by omega) hd
  have ko := of_spec (textOf (pack D)) hsz w
  have KL : Hid (∀ wx, Below w.heap.size w wx → Calls Try.prog 10 #[.pointer (some ⟨d, 0, none⟩)] wx fun e w' => e = .returned (.int .i64 (D.length : Int)) ∧ w' = wx) := fun wx hb => len_spec d wx ad D (hd.below hb)
  have HW : Hid (∀ wx, Below w.heap.size w wx → w.heap.size + 1 ≤ wx.heap.size → WB w p ao ao B (w.heap.size + 1) wx) := fun wx hb hs => WB.start hw hb _ hs
  clear hw hd
  go_enter Try.func24, Try.ntmps24
  go_wp2_with fail
  refine kb.mono ?_
  rintro e w1 ⟨rfl, hw1⟩
  subst hw1
  clear kb
  go_wp2_with fail
  refine ko.mono ?_
  rintro e w2 ⟨rfl, hrd, hb2⟩
  have HRD : Hid (Rd w2 w1.heap.size (textOf (pack D)) 0) := hrd
  have HB0 : Hid (WB w1 p ao ao B (w1.heap.size + 1) w2) := HW.out w2 hb2 (lt_of_block hrd)
  have kl := KL.out w2 hb2
  clear ko hrd hb2 KL HW
  go_wp2_with fail
  refine kl.mono ?_
  rintro e w3 ⟨rfl, hw3⟩
  subst hw3
  clear kl
  go_wp2_with fail
  go_loopw [5, 6, 7, 8, 18] (fun s5 s6 s7 s8 s18 wr => ∃ (k : Nat) (aj : Option Addr) (r : Nat), k + r = D.length ∧ s5 = .int .i64 (r : Int) ∧ WB w1 p ao aj (B ++ D.take k) (w1.heap.size + 1) wr ∧ Rd wr w1.heap.size (textOf (pack D)) k) (fun s5 _ _ _ _ _ => (intOf s5).toNat)
  case atStart => exact ⟨0, ao, D.length, by omega, rfl, by rw [List.take_zero, List.append_nil]; exact HB0.out, HRD.out⟩
  case round =>
    clear HB0 HRD
    obtain ⟨k, aj, r, hkr, rfl, hwb, hrd⟩ := hrel
    have HB : Hid (WB w1 p ao aj (B ++ D.take k) (w1.heap.size + 1) wr) := hwb
    have HR : Hid (Rd wr w1.heap.size (textOf (pack D)) k) := hrd
    have hlen : (B ++ D.take k).length ≤ 7000000000000 := by rw [List.length_append, List.length_take]; omega
    clear hwb hrd
    by_cases hr0 : 0 < r
    · by_cases h64 : r ≤ 64
      · obtain ⟨s1, s2, s3, s4, s5⟩ := pour_step D h01d k r (by omega) (by omega)
        have kg := get_all (textOf (pack D)) hsz k (by omega) wr w1.heap.size ((r : Nat) : Int) HR.out
        have HS3 : Hid (B ++ D.take (k + r) = (B ++ D.take k) ++ putB (getV (textOf (pack D)) k ((r : Nat) : Int)) ((r : Nat) : Int)) := by show _ = _; rw [s3, List.append_assoc]
        rw [s1, s2] at kg
        clear s1 s2 s3
        generalize getV (textOf (pack D)) k ((r : Nat) : Int) = V at *
        go_wp2_with fail
        refine kg.mono ?_
        rintro e w2 ⟨rfl, hr2, hst2⟩
        have HR2 : Hid (Rd w2 w1.heap.size (textOf (pack D)) (k + r)) := hr2
        have H2 : Hid (WB w1 p ao aj (B ++ D.take k) (w1.heap.size + 1) w2) := HB.out.look hst2 (Nat.le_refl _) (by omega)
        clear kg hr2 hst2 HB HR
        have kp := wput_all w2 aj (B ++ D.take k) p V ((r : Nat) : Int) s4 s5 (h01.append (h01d.take k)) hlen H2.out.wr
        go_wp2_with fail
        refine kp.mono ?_
        rintro e w3 ⟨rfl, ao3, hw3, hs3, hv3⟩
        have H3 : Hid (WB w1 p ao ao3 (B ++ D.take (k + r)) (w1.heap.size + 1) w3) := by rw [HS3.out]; exact H2.out.put hw3 hs3 hv3
        have HR3 : Hid (Rd w3 w1.heap.size (textOf (pack D)) (k + r)) := by
          have h := HR2.out
          unfold Rd at h
          show Rd _ _ _ _
          unfold Rd
          rw [H2.out.box hs3 _ (Nat.le_refl _) (by omega)]; exact h
        clear kp hw3 hs3 hv3 H2 HR2 HS3
        go_wp2_with fail
        go_roundw
        case rel => exact ⟨k + r, ao3, r - r, by omega, by go_num, H3.out, HR3.out⟩
        case measure => simp [intOf]; omega
      · obtain ⟨s1, s2, s3, s4, s5⟩ := pour_step D h01d k 64 (by omega) (by omega)
        have kg := get_all (textOf (pack D)) hsz k (by omega) wr w1.heap.size ((64 : Nat) : Int) HR.out
        have HS3 : Hid (B ++ D.take (k + 64) = (B ++ D.take k) ++ putB (getV (textOf (pack D)) k ((64 : Nat) : Int)) ((64 : Nat) : Int)) := by show _ = _; rw [s3, List.append_assoc]
        rw [s1, s2] at kg
        clear s1 s2 s3
        generalize getV (textOf (pack D)) k ((64 : Nat) : Int) = V at *
        go_wp2_with fail
        refine kg.mono ?_
        rintro e w2 ⟨rfl, hr2, hst2⟩
        have HR2 : Hid (Rd w2 w1.heap.size (textOf (pack D)) (k + 64)) := hr2
        have H2 : Hid (WB w1 p ao aj (B ++ D.take k) (w1.heap.size + 1) w2) := HB.out.look hst2 (Nat.le_refl _) (by omega)
        clear kg hr2 hst2 HB HR
        have kp := wput_all w2 aj (B ++ D.take k) p V ((64 : Nat) : Int) s4 s5 (h01.append (h01d.take k)) hlen H2.out.wr
        go_wp2_with fail
        refine kp.mono ?_
        rintro e w3 ⟨rfl, ao3, hw3, hs3, hv3⟩
        have H3 : Hid (WB w1 p ao ao3 (B ++ D.take (k + 64)) (w1.heap.size + 1) w3) := by rw [HS3.out]; exact H2.out.put hw3 hs3 hv3
        have HR3 : Hid (Rd w3 w1.heap.size (textOf (pack D)) (k + 64)) := by
          have h := HR2.out
          unfold Rd at h
          show Rd _ _ _ _
          unfold Rd
          rw [H2.out.box hs3 _ (Nat.le_refl _) (by omega)]; exact h
        clear kp hw3 hs3 hv3 H2 HR2 HS3
        go_wp2_with fail
        go_roundw
        case rel => exact ⟨k + 64, ao3, r - 64, by omega, by go_num, H3.out, HR3.out⟩
        case measure => simp [intOf]; omega
    · have hD : Hid (D.take k = D) := List.take_of_length_le (by omega)
      rw [hD.out] at HB
      go_wp2_with fail
      go_end0
      exact ⟨rfl, aj, HB.out.wr, HB.out.st, HB.out.mv⟩

end Go.Proofs.Ytkhdkmdiblomhaa
