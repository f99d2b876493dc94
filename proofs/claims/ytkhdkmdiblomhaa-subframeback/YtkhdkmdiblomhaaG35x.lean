/- Own text: the walk of awake. recipes and lists that came in as arguments, opened. -/
import Derived.Test.YtkhdkmdiblomhaaG34x
import Derived.Test.YtkhdkmdiblomhaaG18x
import Derived.ProofKit
import Derived.OpenShut
import Derived.Deep.Slices
import Derived.Lib.SmallJoins
import Derived.ChangeSlices
namespace Go.Proofs.Ytkhdkmdiblomhaa
open Go.RowKit
set_option linter.unusedSimpArgs false
set_option linter.unusedVariables false

abbrev SW2 : Sb := ⟨0, 0, 2, 0, 0, [], R0⟩
theorem ints_apart {w w' : World} {p : Nat} {ao : Option Addr} {l : List Int} (h : IntsAt w ao l) (hs : Stays (foot p none) w w') (ha : Apart p none ao l) : IntsAt w' ao l := by
  refine ⟨h.len, h.num, fun h0 => ?_⟩
  obtain ⟨b, off, e, hc⟩ := h.lies h0
  refine ⟨b, off, e, fun j hj => ?_⟩
  have h1 := hc j hj
  rw [← h1]
  exact World.cell?_of_block (w := w) (hs.block b (lt_cell h1) (ha h0 b (by rw [e]; rfl)))
theorem only_foot {q : Nat} {w w' : World} (h : Stays (only q) w w') : Stays (foot q none) w w' := h.mono (fun _ _ hk => Or.inl hk)
theorem foot_ne {p k : Nat} (h : k ≠ p) : ¬ foot p none k := fun hf => by
  rcases hf with hf | hf
  · exact h hf
  · cases hf
theorem ok_a : okS S0 8 (List.replicate 16 5) := by
  refine ⟨⟨⟨by decide, by decide⟩, ⟨by decide, by decide⟩, ⟨by decide, by decide⟩, Or.inl ⟨Or.inl rfl, ⟨rfl, rfl, rfl⟩, rfl, rfl⟩⟩, ?_, by decide, ?_, ?_⟩
  · intro x hx; rw [(List.mem_replicate.1 hx).2]; decide
  · intro _ x hx; rw [(List.mem_replicate.1 hx).2]; rfl
  · intro h; rcases h with h | h <;> cases h
theorem ok_b : okS SW2 8 (List.replicate 3 4) := by
  refine ⟨⟨⟨by decide, by decide⟩, ⟨by decide, by decide⟩, ⟨by decide, by decide⟩, Or.inl ⟨Or.inl rfl, ⟨rfl, rfl, rfl⟩, rfl, rfl⟩⟩, ?_, by decide, ?_, ?_⟩
  · intro x hx; rw [(List.mem_replicate.1 hx).2]; decide
  · intro _ x hx; rw [(List.mem_replicate.1 hx).2]; rfl
  · intro h; rcases h with h | h <;> cases h
theorem bits_a : (subB S0 8 (List.replicate 16 5)).length = 16 ∧ textOf (pack (subB S0 8 (List.replicate 16 5))) = ⟨#[0, 5]⟩ := by
  have e : subB S0 8 (List.replicate 16 5) = [0, 0, 0, 0, 0, 0, 0, 0, 0, 0, 0, 0, 0, 1, 0, 1] := by decide +kernel
  rw [e]; exact ⟨rfl, by decide +kernel⟩
theorem bits_b : (subB SW2 8 (List.replicate 3 4)).length = 16 ∧ textOf (pack (subB SW2 8 (List.replicate 3 4))) = ⟨#[1, 65]⟩ := by
  have e : subB SW2 8 (List.replicate 3 4) = [0, 0, 0, 0, 0, 0, 0, 1, 0, 1, 0, 0, 0, 0, 0, 1] := by decide +kernel
  rw [e]; exact ⟨rfl, by decide +kernel⟩
theorem dec_a : decS ⟨#[0, 5]⟩ 0 16 8 = some (List.replicate 16 5, S0, 16) := by
  have h := back10 S0 8 (List.replicate 16 5) ok_a
  rw [bits_a.1, bits_a.2, List.length_replicate] at h
  exact h
theorem dec_b : decS ⟨#[128, 0]⟩ 0 1 8 = none := by
  have h1 : getE ⟨#[128, 0]⟩ 0 7 = 0 := by decide +kernel
  have h2 : kindN (getV ⟨#[128, 0]⟩ 0 7) = none := by
    have e : getV ⟨#[128, 0]⟩ 0 7 = 64 := by decide +kernel
    rw [e]; rfl
  unfold decS rdSHead
  rw [if_pos h1, h2]
theorem num_fives (n : Nat) : Rng (List.replicate n (5 : Int)) := fun x hx => by rw [(List.mem_replicate.1 hx).2]; decide
set_option maxRecDepth 20000 in
set_option maxHeartbeats 3200000 in
theorem awake_spec (w : World) : Calls Try.prog 7 #[] w fun e w' => e = .returned (.bool true) ∧ Below w.heap.size w w' := by
  have KE : Hid (∀ wx p lo cap, IntsAt wx lo (List.replicate 16 5) → 16 ≤ cap → (lo = none → cap = 0) → WrB wx p none [] → Apart p none lo (List.replicate 16 5) → Calls Try.prog 9 #[.pointer (some ⟨p, 0, none⟩), .agg #[.int .i64 0, .int .i64 0, .int .i64 0, .int .i64 0, .int .i64 0, .slice none 0 0, .int .i64 0, .int .i64 0, .slice none 0 0, .slice none 0 0], .int .i64 8, .slice lo 16 cap] wx fun e w' => e = .returned (.int .i64 0) ∧ ∃ ao', WrB w' p ao' (subB S0 8 (List.replicate 16 5)) ∧ Stays (foot p none) wx w' ∧ Moved wx.heap.size none ao') := fun wx p lo cap h1 h2 h3 h4 h5 =>
    does10.enc_ok S0 8 (List.replicate 16 5) none 0 none 0 none 0 lo cap p none [] wx h2 h3 (fun _ => rfl) (Nat.le_refl _) Bits01.nil (by decide) ⟨IntsAt.nil wx, ⟨IntsAt.nil wx, IntsAt.nil wx, by decide, by decide, by decide, by decide⟩, by decide, by decide, by decide, by decide, by decide⟩ h1 h4 (fun h => by cases h) (fun h => by cases h) (fun h => by cases h) h5 ok_a
  have KF : Hid (∀ wx p lo cap, IntsAt wx lo (List.replicate 3 4) → 3 ≤ cap → (lo = none → cap = 0) → WrB wx p none [] → Apart p none lo (List.replicate 3 4) → Calls Try.prog 9 #[.pointer (some ⟨p, 0, none⟩), .agg #[.int .i64 0, .int .i64 0, .int .i64 2, .int .i64 0, .int .i64 0, .slice none 0 0, .int .i64 0, .int .i64 0, .slice none 0 0, .slice none 0 0], .int .i64 8, .slice lo 3 cap] wx fun e w' => e = .returned (.int .i64 0) ∧ ∃ ao', WrB w' p ao' (subB SW2 8 (List.replicate 3 4)) ∧ Stays (foot p none) wx w' ∧ Moved wx.heap.size none ao') := fun wx p lo cap h1 h2 h3 h4 h5 =>
    does10.enc_ok SW2 8 (List.replicate 3 4) none 0 none 0 none 0 lo cap p none [] wx h2 h3 (fun _ => rfl) (Nat.le_refl _) Bits01.nil (by decide) ⟨IntsAt.nil wx, ⟨IntsAt.nil wx, IntsAt.nil wx, by decide, by decide, by decide, by decide⟩, by decide, by decide, by decide, by decide, by decide⟩ h1 h4 (fun h => by cases h) (fun h => by cases h) (fun h => by cases h) h5 ok_b
  have KD : Hid (∀ wx x, Rd wx x ⟨#[0, 5]⟩ 0 → Calls Try.prog 13 #[.pointer (some ⟨x, 0, none⟩), .int .i64 16, .int .i64 8] wx fun e w' => ∃ la lc ca cc pa pc ea ec, e = .returned (.tuple #[.slice la 16 lc, .agg #[.int .i64 0, .int .i64 0, .int .i64 0, .int .i64 0, .int .i64 0, .slice ca 0 cc, .int .i64 0, .int .i64 0, .slice pa 0 pc, .slice ea 0 ec], .int .i64 0]) ∧ IntsAt w' la (List.replicate 16 5) ∧ Stays (only x) wx w') := fun wx x hx => (does10.dec_ok x ⟨#[0, 5]⟩ 0 16 8 _ _ _ wx (by decide) (by decide) ⟨by decide, by decide⟩ ⟨by decide, by decide⟩ hx dec_a).mono fun e w' hh => by
    obtain ⟨la, lc, ca, cc, pa, pc, ea, ec, h1, h2, _, _, _, _, _, h8⟩ := hh
    exact ⟨la, lc, ca, cc, pa, pc, ea, ec, h1, h2, h8⟩
  have KN : Hid (∀ wx x, Rd wx x ⟨#[128, 0]⟩ 0 → Calls Try.prog 13 #[.pointer (some ⟨x, 0, none⟩), .int .i64 1, .int .i64 8] wx fun e w' => e = .returned (.tuple #[.slice none 0 0, .agg #[.int .i64 0, .int .i64 0, .int .i64 0, .int .i64 0, .int .i64 0, .slice none 0 0, .int .i64 0, .int .i64 0, .slice none 0 0, .slice none 0 0], .int .i64 2]) ∧ Stays (only x) wx w') := fun wx x hx => does10.dec_no x ⟨#[128, 0]⟩ 0 1 8 wx (by decide) (by decide) ⟨by decide, by decide⟩ ⟨by decide, by decide⟩ hx dec_b
  have hta := bits_a
  have htb := bits_b
  have h01a := subB_01 S0 8 (List.replicate 16 5)
  have h01b := subB_01 SW2 8 (List.replicate 3 4)
  generalize subB S0 8 (List.replicate 16 5) = BA at *
  generalize subB SW2 8 (List.replicate 3 4) = BB at *
  have HTA : Hid (BA.length = 16 ∧ textOf (pack BA) = ⟨#[0, 5]⟩) := hta
  have HTB : Hid (BB.length = 16 ∧ textOf (pack BB) = ⟨#[1, 65]⟩) := htb
  have hla : BA.length ≤ 16 := by rw [hta.1]; exact Nat.le_refl _
  have hlb : BB.length ≤ 16 := by rw [htb.1]; exact Nat.le_refl _
  clear hta htb
  have kn := new_spec w
  go_enter Try.func7, Try.ntmps7
  go_wp2_with fail
  refine kn.mono ?_
  rintro e w1 ⟨rfl, hw1, hq1⟩
  have hb1 : Below w.heap.size w w1 := by rw [hq1]; exact (Below.refl _ _).alloc (Nat.le_refl _) _
  have hz1 : w.heap.size < w1.heap.size := by rw [hq1]; simp
  have HWP1 : Hid (WrB w1 w.heap.size none []) := hw1
  have HL1 : Hid (Below w.heap.size w w1) := hb1
  clear kn hw1 hq1 hb1
  have kn := new_spec w1
  go_wp2_with fail
  refine kn.mono ?_
  rintro e w2 ⟨rfl, hw2, hq2⟩
  have hb2 : Below w1.heap.size w1 w2 := by rw [hq2]; exact (Below.refl _ _).alloc (Nat.le_refl _) _
  have hz2 : w1.heap.size < w2.heap.size := by rw [hq2]; simp
  have HWP2 : Hid (WrB w2 w.heap.size none []) := HWP1.out.below hb2
  have HWR2 : Hid (WrB w2 w1.heap.size none []) := hw2
  have HL2 : Hid (Below w.heap.size w w2) := HL1.out.trans (hb2.mono HL1.out.size)
  clear kn hw2 hq2 hb2 HWP1 HL1
  generalize hr : w1.heap.size = r at *
  clear hr
  go_wp2_with fail
  refine (many_spec 16 5 (by decide) ⟨by decide, by decide⟩ w2).mono ?_
  rintro e w3 ⟨oa, oc, rfl, hi3, ⟨hc3, hn3⟩, hf3, hb3⟩
  have HWP3 : Hid (WrB w3 w.heap.size none []) := HWP2.out.below hb3
  have HWR3 : Hid (WrB w3 r none []) := HWR2.out.below hb3
  have HL3 : Hid (Below w.heap.size w w3) := HL2.out.trans (hb3.mono HL2.out.size)
  have hz3 := hb3.size
  have ke := KE.out w3 w.heap.size oa oc hi3 hc3 hn3 HWP3.out (apart_new hf3 (by omega))
  clear hi3 hf3 hb3 HWP2 HWR2 HL2 KE
  go_wp2_with fail
  refine ke.mono ?_
  rintro e w4 ⟨rfl, aoP, hw4, hs4, hm4⟩
  have HWP4 : Hid (WrB w4 w.heap.size aoP BA) := hw4
  have HWR4 : Hid (WrB w4 r none []) := HWR3.out.stays hs4 (foot_ne (by omega)) (fun b hb => by cases hb)
  have HL4 : Hid (Below w.heap.size w w4) := HL3.out.trans (foot_below hs4 HL3.out.size (Nat.le_refl _) (fun b hb => by cases hb))
  have HBU : Hid (∀ b, blockOf aoP = some b → r < b) := fun b hb => by
    rcases hm4 b hb with h | h
    · cases h
    · omega
  have hz4 := hs4.size
  clear ke hw4 hs4 hm4 HWP3 HWR3 HL3 hc3 hn3
  go_wp2_with fail
  refine (many_spec 3 4 (by decide) ⟨by decide, by decide⟩ w4).mono ?_
  rintro e w5 ⟨ob, od, rfl, hi5, ⟨hc5, hn5⟩, hf5, hb5⟩
  have HWP5 : Hid (WrB w5 w.heap.size aoP BA) := HWP4.out.below hb5
  have HWR5 : Hid (WrB w5 r none []) := HWR4.out.below hb5
  have HL5 : Hid (Below w.heap.size w w5) := HL4.out.trans (hb5.mono HL4.out.size)
  have hz5 := hb5.size
  have ke := KF.out w5 r ob od hi5 hc5 hn5 HWR5.out (apart_new hf5 (by omega))
  clear hi5 hf5 hb5 HWP4 HWR4 HL4 KF
  go_wp2_with fail
  refine ke.mono ?_
  rintro e w6 ⟨rfl, aoR, hw6, hs6, hm6⟩
  have HWP6 : Hid (WrB w6 w.heap.size aoP BA) := HWP5.out.stays hs6 (foot_ne (by omega)) (fun b hb => foot_ne (by have := HBU.out b hb; omega))
  have HWR6 : Hid (WrB w6 r aoR BB) := hw6
  have HL6 : Hid (Below w.heap.size w w6) := HL5.out.trans (foot_below hs6 HL5.out.size (by omega) (fun b hb => by cases hb))
  have hz6 := hs6.size
  clear ke hw6 hs6 hm6 HWP5 HWR5 HL5 hc5 hn5 HBU
  have kb := bytes_spec w.heap.size w6 aoP BA h01a (by omega) HWP6.out
  rw [HTA.out.2] at kb
  have ko := of_spec ⟨#[0, 5]⟩ (by decide) w6
  go_wp2_with fail
  refine kb.mono ?_
  rintro e w6' ⟨rfl, hq⟩
  subst hq
  clear kb
  go_wp2_with fail
  refine ko.mono ?_
  rintro e w7 ⟨rfl, hrd7, hb7⟩
  have HWP7 : Hid (WrB w7 w.heap.size aoP BA) := HWP6.out.below hb7
  have HWR7 : Hid (WrB w7 r aoR BB) := HWR6.out.below hb7
  have HL7 : Hid (Below w.heap.size w w7) := HL6.out.trans (hb7.mono HL6.out.size)
  have hbp := HWP6.out.blocks
  have hbr := HWR6.out.blocks
  have hz7 : w6'.heap.size < w7.heap.size := hrd7.lt
  have kd := KD.out w7 w6'.heap.size hrd7
  clear ko hrd7 hb7 HWP6 HWR6 HL6 KD
  generalize hx : w6'.heap.size = x at *
  clear hx
  go_wp2_with fail
  refine kd.mono ?_
  rintro e w8 ⟨la, lc, ca, cc, pa, pc, ea, ec, rfl, hi8, hs8⟩
  have HWP8 : Hid (WrB w8 w.heap.size aoP BA) := HWP7.out.only hs8 (by omega) (fun b hb => by have := hbp b hb; omega)
  have HWR8 : Hid (WrB w8 r aoR BB) := HWR7.out.only hs8 (by omega) (fun b hb => by have := hbr b hb; omega)
  have HL8 : Hid (Below w.heap.size w w8) := HL7.out.trans (only_below hs8 HL7.out.size (by omega))
  have hz8 := hs8.size
  clear kd hs8 HWP7 HWR7 HL7 hbp hbr
  have HI8 : Hid (IntsAt w8 la (List.replicate 16 5)) := hi8
  clear hi8
  have HA9 : Hid (Below w8.heap.size w8 (w8.alloc (.cells #[.int .i64 0, .int .i64 0, .int .i64 0, .int .i64 0, .int .i64 0, .slice ca 0 cc, .int .i64 0, .int .i64 0, .slice pa 0 pc, .slice ea 0 ec] 26))) := (Below.refl _ _).alloc (Nat.le_refl _) _
  have HX9 : Hid ((w8.alloc (.cells #[.int .i64 0, .int .i64 0, .int .i64 0, .int .i64 0, .int .i64 0, .slice ca 0 cc, .int .i64 0, .int .i64 0, .slice pa 0 pc, .slice ea 0 ec] 26)).heap[w8.heap.size]? = some (.cells #[.int .i64 0, .int .i64 0, .int .i64 0, .int .i64 0, .int .i64 0, .slice ca 0 cc, .int .i64 0, .int .i64 0, .slice pa 0 pc, .slice ea 0 ec] 26 (0, 0))) := heap_alloc_new _ _
  have ko := of_spec ⟨#[128, 0]⟩ (by decide) (w8.alloc (.cells #[.int .i64 0, .int .i64 0, .int .i64 0, .int .i64 0, .int .i64 0, .slice ca 0 cc, .int .i64 0, .int .i64 0, .slice pa 0 pc, .slice ea 0 ec] 26))
  go_wp2_with fail
  generalize hw9 : World.alloc _ _ = w9 at *
  clear hw9
  have HWP9 : Hid (WrB w9 w.heap.size aoP BA) := HWP8.out.below HA9.out
  have HWR9 : Hid (WrB w9 r aoR BB) := HWR8.out.below HA9.out
  have HL9 : Hid (Below w.heap.size w w9) := HL8.out.trans (HA9.out.mono HL8.out.size)
  have HI9 : Hid (IntsAt w9 la (List.replicate 16 5)) := HI8.out.below HA9.out
  have hz9 := HA9.out.size
  clear HA9 HWP8 HWR8 HL8 HI8
  generalize hk : w8.heap.size = k at *
  clear hk
  refine ko.mono ?_
  rintro e w10 ⟨rfl, hrd10, hb10⟩
  have HWP10 : Hid (WrB w10 w.heap.size aoP BA) := HWP9.out.below hb10
  have HWR10 : Hid (WrB w10 r aoR BB) := HWR9.out.below hb10
  have HL10 : Hid (Below w.heap.size w w10) := HL9.out.trans (hb10.mono HL9.out.size)
  have HI10 : Hid (IntsAt w10 la (List.replicate 16 5)) := HI9.out.below hb10
  have hkl := lt_of_block HX9.out
  have HX10 : Hid (w10.heap[k]? = some (.cells #[.int .i64 0, .int .i64 0, .int .i64 0, .int .i64 0, .int .i64 0, .slice ca 0 cc, .int .i64 0, .int .i64 0, .slice pa 0 pc, .slice ea 0 ec] 26 (0, 0))) := by show _ = _; rw [hb10.block _ hkl]; exact HX9.out
  have HAP : Hid (Apart w9.heap.size none la (List.replicate 16 5)) := apart_old HI9.out (Nat.le_refl _)
  have hbp := HWP9.out.blocks
  have hbr := HWR9.out.blocks
  have hz10 : w9.heap.size < w10.heap.size := hrd10.lt
  have kd := KN.out w10 w9.heap.size hrd10
  clear ko hrd10 hb10 HWP9 HWR9 HL9 HI9 HX9 KN
  generalize hy : w9.heap.size = y at *
  clear hy
  go_wp2_with fail
  refine kd.mono ?_
  rintro e w11 ⟨rfl, hs11⟩
  have HWP11 : Hid (WrB w11 w.heap.size aoP BA) := HWP10.out.only hs11 (by omega) (fun b hb => by have := hbp b hb; omega)
  have HWR11 : Hid (WrB w11 r aoR BB) := HWR10.out.only hs11 (by omega) (fun b hb => by have := hbr b hb; omega)
  have HL11 : Hid (Below w.heap.size w w11) := HL10.out.trans (only_below hs11 HL10.out.size (by omega))
  have HI11 : Hid (IntsAt w11 la (List.replicate 16 5)) := ints_apart HI10.out (only_foot hs11) HAP.out
  have HX11 : Hid (w11.heap[k]? = some (.cells #[.int .i64 0, .int .i64 0, .int .i64 0, .int .i64 0, .int .i64 0, .slice ca 0 cc, .int .i64 0, .int .i64 0, .slice pa 0 pc, .slice ea 0 ec] 26 (0, 0))) := by show _ = _; rw [hs11.block _ (by omega) (fun e => by unfold only at e; omega)]; exact HX10.out
  have hz11 := hs11.size
  clear kd hs11 HWP10 HWR10 HL10 HI10 HX10 hbp hbr HAP
  have HA12 : Hid (Below w11.heap.size w11 (w11.alloc (.cells #[.int .i64 0, .int .i64 0, .int .i64 0, .int .i64 0, .int .i64 0, .slice none 0 0, .int .i64 0, .int .i64 0, .slice none 0 0, .slice none 0 0] 26))) := (Below.refl _ _).alloc (Nat.le_refl _) _
  go_upto_region 11 with fail
  generalize hw12 : World.alloc _ _ = w12 at *
  clear hw12
  have HWP12 : Hid (WrB w12 w.heap.size aoP BA) := HWP11.out.below HA12.out
  have HWR12 : Hid (WrB w12 r aoR BB) := HWR11.out.below HA12.out
  have HL12 : Hid (Below w.heap.size w w12) := HL11.out.trans (HA12.out.mono HL11.out.size)
  have HI12 : Hid (IntsAt w12 la (List.replicate 16 5)) := HI11.out.below HA12.out
  have HX12 : Hid (w12.heap[k]? = some (.cells #[.int .i64 0, .int .i64 0, .int .i64 0, .int .i64 0, .int .i64 0, .slice ca 0 cc, .int .i64 0, .int .i64 0, .slice pa 0 pc, .slice ea 0 ec] 26 (0, 0))) := by show _ = _; rw [HA12.out.block _ (lt_of_block HX11.out)]; exact HX11.out
  clear HA12 HWP11 HWR11 HL11 HI11 HX11
  have kb := bytes_spec w.heap.size w12 aoP BA h01a (by omega) HWP12.out
  rw [HTA.out.2] at kb
  have kl := len_spec r w12 aoR BB HWR12.out
  rw [HTB.out.1] at kl
  have kc := bytes_spec r w12 aoR BB h01b (by omega) HWR12.out
  rw [HTB.out.2] at kc
  go_wp2_with fail
  refine kb.mono ?_
  rintro e wa ⟨rfl, hq⟩
  subst hq
  clear kb
  go_wp2_with fail
  refine kl.mono ?_
  rintro e wb ⟨rfl, hq⟩
  subst hq
  clear kl
  go_wp2_with fail
  refine kc.mono ?_
  rintro e wc ⟨rfl, hq⟩
  subst hq
  clear kc
  go_wp2_with fail
  refine (many_spec 16 5 (by decide) ⟨by decide, by decide⟩ wc).mono ?_
  rintro e w13 ⟨oe, og, rfl, hi13, _, _, hb13⟩
  have HL13 : Hid (Below w.heap.size w w13) := HL12.out.trans (hb13.mono HL12.out.size)
  have HX13 : Hid (w13.heap[k]? = some (.cells #[.int .i64 0, .int .i64 0, .int .i64 0, .int .i64 0, .int .i64 0, .slice ca 0 cc, .int .i64 0, .int .i64 0, .slice pa 0 pc, .slice ea 0 ec] 26 (0, 0))) := by show _ = _; rw [hb13.block _ (lt_of_block HX12.out)]; exact HX12.out
  have ki := ints_same (List.replicate 16 5) la oe lc og w13 (HI12.out.below hb13) hi13
  rw [List.length_replicate] at ki
  clear hi13 hb13 HWP12 HWR12 HL12 HI12 HX12
  go_wp2_with fail
  refine ki.mono ?_
  rintro e w14 ⟨rfl, n14, hq⟩
  have hb14 : Below w13.heap.size w13 w14 := by rw [hq]; exact below_drewN _ _
  have HL14 : Hid (Below w.heap.size w w14) := HL13.out.trans (hb14.mono HL13.out.size)
  have hx14 : w14.heap[k]? = some (.cells #[.int .i64 0, .int .i64 0, .int .i64 0, .int .i64 0, .int .i64 0, .slice ca 0 cc, .int .i64 0, .int .i64 0, .slice pa 0 pc, .slice ea 0 ec] 26 (0, 0)) := by rw [hb14.block _ (lt_of_block HX13.out)]; exact HX13.out
  have z0 : w14.cell? ⟨k, 0, none⟩ = some (.int .i64 0) := by rw [cell_of_row _ _ _ _ _ _ hx14]; rfl
  clear hq hb14 hx14 ki
  go_wp2_with fail
  go_ret
  exact ⟨rfl, HL14.out⟩

end Go.Proofs.Ytkhdkmdiblomhaa

namespace Go.Proofs.Ytkhdkmdiblomhaa
open Go.ChangeShapes Go.WideShapes Go.ChangeAt Go.RowKit Go.Deep
set_option linter.unusedSimpArgs false
set_option linter.unusedVariables false

theorem acells3 : Try.prog.cellsOf 3 = 1 := by kernel_rfl
theorem acellsI : Try.prog.cellsOf 22 = 1 := by kernel_rfl
theorem acellsR : Try.prog.cellsOf 24 = 4 := by kernel_rfl
theorem abytes3 : Try.prog.bytesOf 3 = 8 := by kernel_rfl
theorem acellsS : Try.prog.cellsOf 26 = 10 := by kernel_rfl
section
variable {H : Type} {enc : TypeId × Value → H} {w : World} {base base2 : Nat} {held : Bool}
theorem at_spot {a : Addr} {v : Value} (h : w.cell? (a.add 0) = some v) : ∃ b off, a = ⟨b, off, none⟩ := by
  obtain ⟨b, off, spot⟩ := a
  cases spot with
  | none => exact ⟨b, off, rfl⟩
  | some x =>
    exfalso
    unfold Addr.add World.cell? at h
    split at h <;> simp at h
/-- A list of numbers, opened. -/
theorem open_row {fuel : Nat} {cs : List Value} {x : DataW H × List MemPlace} (h : DataW.trod enc Try.prog w base (fun _ => true) held fuel 22 cs = some x) (hw : ∀ n ∈ x.1.weights Try.prog 22, n ≤ reachBytes) :
    ∃ (ao : Option Addr) (cap : Nat) (l : List Int), cs = [.slice ao l.length cap] ∧ IntsAt w ao l ∧ l.length ≤ cap ∧ (ao = none → cap = 0) := by
  rcases open_ints Try.underlying22 Try.underlying3 acells3 h with ⟨rfl, rfl⟩ | ⟨a, len, cap, zs, rfl, _, hl, hm, hz, hx, hc, hwf⟩
  · exact ⟨none, 0, [], rfl, ⟨by simp, fun n hn => absurd hn (by simp), fun h => absurd h (by simp)⟩, Nat.le_refl _, fun _ => rfl⟩
  · simp only [if_true] at hz
    rw [hx] at hw
    simp only [DataW.weights, Try.underlying22] at hw
    have hcap : cap * 8 ≤ reachBytes := by
      have := hw _ (List.mem_cons_self)
      rw [abytes3] at this
      simp only [lits, List.length_map, List.length_take, List.length_drop] at this
      have e : min len zs.length + (zs.length - len) = cap := by omega
      rwa [e] at this
    simp only [reachBytes] at hcap
    have hL : (zs.take len).length = len := by rw [List.length_take]; omega
    refine ⟨some a, cap, zs.take len, by rw [hL], ⟨by rw [hL]; omega, fun n hn => bounds_i64 (hwf n (List.mem_of_mem_take hn)), fun h0 => ?_⟩, by rw [hL]; exact hl, fun e => by cases e⟩
    rw [hL] at h0
    obtain ⟨b, off, rfl⟩ := at_spot (hc 0 (by omega))
    refine ⟨b, off, rfl, fun j hj => ?_⟩
    rw [hL] at hj
    have h9 := hc j (by omega)
    rw [Addr.add_mid] at h9
    rw [h9]
    congr 2
    rw [List.getD_eq_getElem?_getD, List.getD_eq_getElem?_getD, List.getElem?_take, if_pos hj]
set_option maxRecDepth 20000 in
theorem open_list {r : Reach} {v : Value} {d : DataW H} {q : List MemPlace} (hv : Value.okWide Try.prog w r base2 22 v) (h : DataW.Trod enc Try.prog w base (fun _ => true) held 22 v d q) (hw : ∀ n ∈ d.weights Try.prog 22, n ≤ reachBytes) :
    ∃ (ao : Option Addr) (cap : Nat) (l : List Int), v = .slice ao l.length cap ∧ IntsAt w ao l ∧ l.length ≤ cap ∧ (ao = none → cap = 0) := by
  obtain ⟨ao, len, cap, rfl⟩ := okWide_slice Try.underlying22 hv
  obtain ⟨fuel, hf⟩ := h
  obtain ⟨ao', cap', l, hc, h1, h2, h3⟩ := open_row hf hw
  have e : (Value.slice ao len cap) = .slice ao' l.length cap' := by
    have : ([Value.slice ao len cap] : List Value) = [.slice ao' l.length cap'] := hc
    injection this
  exact ⟨ao', cap', l, e, h1, h2, h3⟩
theorem struct7 {P : Program} {t : TypeId} {f0 f1 f2 f3 f4 f5 f6 : Field} {fuel : Nat} {cs : List Value} {x : DataW H × List MemPlace} {spare : Nat → Bool} (ht : P.underlying t = some (.struct #[f0, f1, f2, f3, f4, f5, f6])) (h : DataW.trod enc P w base spare held fuel t cs = some x) :
    ∃ y0 y1 y2 y3 y4 y5 y6 n, x.1 = .agg [y0.1, y1.1, y2.1, y3.1, y4.1, y5.1, y6.1] ∧ cs.length = P.cellsOf t ∧ DataW.trod enc P w base spare held n f0.type ((cs.drop f0.offset).take (P.cellsOf f0.type)) = some y0 ∧ DataW.trod enc P w base spare held n f1.type ((cs.drop f1.offset).take (P.cellsOf f1.type)) = some y1 ∧ DataW.trod enc P w base spare held n f2.type ((cs.drop f2.offset).take (P.cellsOf f2.type)) = some y2 ∧ DataW.trod enc P w base spare held n f3.type ((cs.drop f3.offset).take (P.cellsOf f3.type)) = some y3 ∧ DataW.trod enc P w base spare held n f4.type ((cs.drop f4.offset).take (P.cellsOf f4.type)) = some y4 ∧ DataW.trod enc P w base spare held n f5.type ((cs.drop f5.offset).take (P.cellsOf f5.type)) = some y5 ∧ DataW.trod enc P w base spare held n f6.type ((cs.drop f6.offset).take (P.cellsOf f6.type)) = some y6 := by
  obtain ⟨xs, n, _, rfl, hl, hlen, hf⟩ := DataW.trod_struct ht h
  match xs, hlen with
  | [y0, y1, y2, y3, y4, y5, y6], _ => exact ⟨y0, y1, y2, y3, y4, y5, y6, n, by simp, hl, by simpa using hf 0 f0 rfl, by simpa using hf 1 f1 rfl, by simpa using hf 2 f2 rfl, by simpa using hf 3 f3 rfl, by simpa using hf 4 f4 rfl, by simpa using hf 5 f5 rfl, by simpa using hf 6 f6 rfl⟩
set_option maxRecDepth 20000 in
theorem open_riceC {fuel : Nat} {cs : List Value} {x : DataW H × List MemPlace} (hf : DataW.trod enc Try.prog w base (fun _ => true) held fuel 24 cs = some x) (hw : ∀ n ∈ x.1.weights Try.prog 24, n ≤ reachBytes) :
    ∃ (c : Rc) (pa : Option Addr) (pc : Nat) (ea : Option Addr) (ec : Nat), cs = [.int .i64 c.m, .int .i64 c.o, .slice pa c.P.length pc, .slice ea c.E.length ec] ∧ RcAt w c pa ea := by
  obtain ⟨y0, y1, y2, y3, m, hx, hl, h0, h1, h2, h3⟩ := Joins.trod_struct4 Try.underlying24 hf
  rw [acellsR] at hl
  obtain ⟨z0, e0, f0, q0⟩ := DataW.trod_int Try.underlying3 h0
  obtain ⟨z1, e1, f1, q1⟩ := DataW.trod_int Try.underlying3 h1
  have hd : x.1 = .agg [y0.1, y1.1, y2.1, y3.1] := by rw [hx]
  have hw2 : ∀ n ∈ y2.1.weights Try.prog 22, n ≤ reachBytes := fun n hn => by
    apply hw
    rw [hd]
    simp only [DataW.weights, Try.underlying24, List.map_cons, List.map_nil, DataW.weightsEach, List.toList_toArray]
    simp only [List.mem_append]
    exact .inr (.inr (.inl hn))
  have hw3 : ∀ n ∈ y3.1.weights Try.prog 22, n ≤ reachBytes := fun n hn => by
    apply hw
    rw [hd]
    simp only [DataW.weights, Try.underlying24, List.map_cons, List.map_nil, DataW.weightsEach, List.toList_toArray]
    simp only [List.mem_append]
    exact .inr (.inr (.inr (.inl hn)))
  obtain ⟨pa, pc, P, hP, iP, _, _⟩ := open_row h2 hw2
  obtain ⟨ea, ec, E, hE, iE, _, _⟩ := open_row h3 hw3
  match cs, hl with
  | [c0, c1, c2, c3], _ =>
    simp [acells3] at e0 e1
    simp [acells3, acellsI] at hP hE
    subst e0 e1 hP hE
    exact ⟨⟨z0, z1, P, E⟩, pa, pc, ea, ec, rfl, ⟨iP, iE, (bounds_i64 q0).1, (bounds_i64 q0).2, (bounds_i64 q1).1, (bounds_i64 q1).2⟩⟩
set_option maxRecDepth 20000 in
theorem open_sub {r : Reach} {v : Value} {d : DataW H} {q : List MemPlace} (hv : Value.okWide Try.prog w r base2 26 v) (h : DataW.Trod enc Try.prog w base (fun _ => true) held 26 v d q) (hw : ∀ n ∈ d.weights Try.prog 26, n ≤ reachBytes) :
    ∃ (s : Sb) (ca : Option Addr) (cc : Nat) (pa : Option Addr) (pc : Nat) (ea : Option Addr) (ec : Nat), v = subV s ca cc pa pc ea ec ∧ SbAt w s ca pa ea ∧ s.C.length ≤ cc ∧ (ca = none → cc = 0) := by
  obtain ⟨cs, rfl, hs⟩ := okWide_struct Try.underlying26 hv
  obtain ⟨fuel, hf⟩ := h
  obtain ⟨y0, y1, y2, y3, y4, y5, y6, m, hd, hl, h0, h1, h2, h3, h4, h5, h6⟩ := struct7 Try.underlying26 hf
  rw [acellsS] at hl
  obtain ⟨z0, e0, _, q0⟩ := DataW.trod_int Try.underlying3 h0
  obtain ⟨z1, e1, _, q1⟩ := DataW.trod_int Try.underlying3 h1
  obtain ⟨z2, e2, _, q2⟩ := DataW.trod_int Try.underlying3 h2
  obtain ⟨z3, e3, _, q3⟩ := DataW.trod_int Try.underlying3 h3
  obtain ⟨z4, e4, _, q4⟩ := DataW.trod_int Try.underlying3 h4
  have hd' : d = .agg [y0.1, y1.1, y2.1, y3.1, y4.1, y5.1, y6.1] := hd
  have hw5 : ∀ n ∈ y5.1.weights Try.prog 22, n ≤ reachBytes := fun n hn => by
    apply hw
    rw [hd']
    simp only [DataW.weights, Try.underlying26, List.map_cons, List.map_nil, DataW.weightsEach, List.toList_toArray]
    simp only [List.mem_append]
    exact .inr (.inr (.inr (.inr (.inr (.inl hn)))))
  have hw6 : ∀ n ∈ y6.1.weights Try.prog 24, n ≤ reachBytes := fun n hn => by
    apply hw
    rw [hd']
    simp only [DataW.weights, Try.underlying26, List.map_cons, List.map_nil, DataW.weightsEach, List.toList_toArray]
    simp only [List.mem_append]
    exact .inr (.inr (.inr (.inr (.inr (.inr (.inl hn))))))
  obtain ⟨ca, cc, C, hC, iC, c1, c2⟩ := open_row h5 hw5
  obtain ⟨c, pa, pc, ea, ec, hR, iR⟩ := open_riceC h6 hw6
  obtain ⟨cl⟩ := cs
  match cl, hl with
  | [k0, k1, k2, k3, k4, k5, k6, k7, k8, k9], _ =>
    simp [acells3, Value.cells] at e0 e1 e2 e3 e4
    simp [acellsI, Value.cells] at hC
    simp [acellsR, Value.cells] at hR
    obtain ⟨r0, r1, r2, r3⟩ := hR
    subst e0 e1 e2 e3 e4 hC r0 r1 r2 r3
    exact ⟨⟨z0, z1, z2, z3, z4, C, c⟩, ca, cc, pa, pc, ea, ec, rfl, ⟨iC, iR, bounds_i64 q0, bounds_i64 q1, bounds_i64 q2, bounds_i64 q3, bounds_i64 q4⟩, c1, c2⟩
end

end Go.Proofs.Ytkhdkmdiblomhaa
