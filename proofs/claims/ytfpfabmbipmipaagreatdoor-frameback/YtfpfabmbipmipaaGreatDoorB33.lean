/- Own text. -/
import Derived.Test.YtfpfabmbipmipaaGreatDoorB32
set_option linter.unusedSimpArgs false
set_option linter.unusedVariables false
set_option maxRecDepth 20000
set_option maxHeartbeats 12800000
namespace Go.Proofs.YtfpfabmbipmipaaGreatDoor
open Go.RowKit
theorem Lay.only {w w' : World} {x : Nat} (h : Lay w) (hs : Stays (only x) w w') (hx : 4 <= x) : Lay w' := by
 have tab : ∀ {b : Nat} {T : List Int}, b < 4 -> IntTab b T w -> IntTab b T w' := fun {b T} hb4 ht j hj => by
  have h1 := ht j hj
  rw [<- h1]; exact World.cell?_of_block (w := w) (hs.block _ (lt_cell h1) (fun e => by have e2 : b = x := e; omega))
 refine ⟨tab (by decide) h.z, tab (by decide) h.r, tab (by decide) h.d, ?_⟩
 have hlt := S3.RulesAt.size h.u
 obtain ⟨t, fz, hb⟩ := h.u
 exact ⟨t, fz, by rw [hs.block _ (lt_of_block hb) (fun e => by have e2 : 3 = x := e; omega)]; exact hb⟩
theorem tail_bytes (s : ByteArray) (a : Nat) : bytesOf (s.extract a s.size) = (bytesOf s).drop a := by
 rw [bytesOf_extract, List.take_of_length_le (by rw [bytesOf_length]; exact Nat.le_refl _)]
theorem head_bytes (s : ByteArray) (b : Nat) : bytesOf (s.extract 0 b) = (bytesOf s).take b := by
 rw [bytesOf_extract, List.drop_zero]
theorem extract_size (s : ByteArray) (a b : Nat) (h : b <= s.size) : (s.extract a b).size = b - a := by
 rw [<- bytesOf_length, bytesOf_extract, List.length_drop, List.length_take, bytesOf_length]; omega
theorem f_num_ok (x g : Nat) (s : ByteArray) (hs : s.size ≤ 140737488351232) (h : Hd) (num k : Nat) (h4 : 4 ≤ s.size) (hu : uncode ((bytesOf s).drop 4) = (num, k, 0)) (w0 w : World) (ha : HX x g s h 32 w0 w) :
  Calls Tryz.prog 95 #[.pointer (some ⟨x, 0, none⟩), .string s, .pointer (some ⟨g, 0, none⟩)] w fun en w' => en = .returned (.bool true) ∧ HX x g s { h with num := (num : Int) } (32 + 8 * k) w0 w' := by
 obtain ⟨u1, u2, u3, u4⟩ := uncode_again ((bytesOf s).drop 4) (fun b hb => bytesOf_lt s b (List.mem_of_mem_drop hb)) num k hu
 have hk7 : k ≤ 7 := (by rw [u1]; exact (clen_range num).2)
 have hnum : num < 68719476736 := u2
 have hk4 : 4 + k ≤ s.size := by rw [List.length_drop, bytesOf_length] at u3; omega
 have ku := fun wx => S2.uncoded_spec (s.extract 4 s.size) (by rw [extract_size s 4 s.size (Nat.le_refl _)]; omega) wx
 rw [tail_bytes, hu] at ku
 have KU : Hid (∀ wx, Calls Tryz.prog 138 #[.string (s.extract 4 s.size)] wx fun e w' => e = .returned (.tuple #[.int .i64 (num : Int), .int .i64 (k : Int), .int .i64 0]) ∧ ∃ n, w' = wx.drewN n) := ku
 have HA : Hid (HX x g s h 32 w0 w) := ha
 have kat := at_spec x s 32 w ha.rd
 have KN : Hid (∀ wx, Rd wx x s 32 → Calls Tryz.prog 137 #[.pointer (some ⟨x, 0, none⟩), .int .i64 (8 * (k : Int))] wx fun e w' => e = .returned (.int .i64 (bitsAt s 32 (8 * k) : Int)) ∧ Rd w' x s (32 + 8 * k) ∧ Stays (only x) wx w') := fun wx h => f_next x s hs 32 (8 * k) (by omega) (by omega) wx h
 clear ha ku u1 u2 u3 u4 hu
 go_enter Tryz.func95, Tryz.ntmps95
 go_wp2_with fail
 refine kat.mono ?_
 rintro en w1 ⟨rfl, hw1⟩
 subst hw1
 clear kat
 go_wp2_with fail
 refine (KU.out _).mono ?_
 rintro en w2 ⟨rfl, nn, hw2⟩
 have HB : Hid (HX x g s h 32 w0 w2) := by rw [hw2]; exact HA.out.low (below_drewN _ _)
 clear hw2 HA KU
 obtain ⟨z0, z1, z2, z3, z4, z5, z6, z7⟩ := HB.out.cells
 have fz := HB.out.f 5
 have HC : Hid (HX x g s { h with num := (num : Int) } 32 w0 (w2.setCell ⟨g, 5, none⟩ (.int .i64 (num : Int)))) := HB.out.put 5 _ _ rfl
 go_wp2_with fail
 clear z0 z1 z2 z3 z4 z5 z6 z7 fz HB
 generalize w2.setCell ⟨g, 5, none⟩ (.int .i64 (num : Int)) = w3 at *
 refine (KN.out _ HC.out.rd).mono ?_
 rintro en w4 ⟨rfl, hr, hs4⟩
 have HD : Hid (HX x g s { h with num := (num : Int) } (32 + 8 * k) w0 w4) := HC.out.next hr hs4
 clear hr hs4 HC KN
 go_wp2_with fail
 go_ret
 exact ⟨rfl, HD.out⟩
theorem f_beh_no (x g : Nat) (s : ByteArray) (hs : s.size <= 140737488351232) (h : Hd) (a : Nat) (zn rn : Nat) (hz : szb h.sc = zn) (hr : rtb h.rc = rn) (hz2 : zn <= 2) (hr2 : rn <= 2) (ha8 : a <= 8 * s.size) (hl : 8 * s.size < a + (8 * zn + 8 * rn)) (w0 w : World) (ha : HX x g s h a w0 w) :
  Calls Tryz.prog 96 #[.pointer (some ⟨x, 0, none⟩), .pointer (some ⟨g, 0, none⟩)] w fun en w' => en = .returned (.bool false) /\ HX x g s h a w0 w' := by
 have kz := f_szb h.sc
 have kr := f_rtb h.rc
 rw [hz] at kz
 rw [hr] at kr
 have HA := kQ ha
 have KL : Hid (∀ wx, HX x g s h a w0 wx -> Calls Tryz.prog 136 #[.pointer (some ⟨x, 0, none⟩)] wx fun e w' => e = .returned (.int .i64 (8 * (s.size : Int) - (a : Int))) /\ ∃ n, w' = wx.drewN n) := fun wx hh => left_spec x s (by omega) a ha8 wx hh.rd
 obtain ⟨z0, z1, z2, z3, z4, z5, z6, z7⟩ := ha.cells
 clear ha hz hr
 go_enter Tryz.func96, Tryz.ntmps96
 go_wp2_with fail
 go_quiet (first | (go_at_call 60; exact Calls.quiet_of_same (kz _)) | (go_at_call 61; exact Calls.quiet_of_same (kr _)))
 have HB : Hid (HX x g s h a w0 (w.drewN nq)) := HA.out.low (below_drewN _ _)
 clear z0 z1 z2 z3 z4 z5 z6 z7 HA kz kr
 generalize w.drewN nq = w1 at *
 go_wp2_with fail
 refine (KL.out _ HB.out).mono ?_
 rintro en w2 ⟨rfl, nn, hw2⟩
 have HC : Hid (HX x g s h a w0 w2) := by rw [hw2]; exact HB.out.low (below_drewN _ _)
 clear hw2 HB KL
 go_wp2_with fail
 go_ret
 exact ⟨rfl, HC.out⟩
theorem f_beh_ok (x g : Nat) (s : ByteArray) (hs : s.size <= 140737488351232) (h : Hd) (a : Nat) (zn rn : Nat) (hz : szb h.sc = zn) (hr : rtb h.rc = rn) (hz2 : zn <= 2) (hr2 : rn <= 2) (hl : a + 8 * zn + 8 * rn <= 8 * s.size) (w0 w : World) (ha : HX x g s h a w0 w) :
  Calls Tryz.prog 96 #[.pointer (some ⟨x, 0, none⟩), .pointer (some ⟨g, 0, none⟩)] w fun en w' => en = .returned (.bool true) /\ HX x g s { h with sz := (bitsAt s a (8 * zn) : Int), rt := (bitsAt s (a + 8 * zn) (8 * rn) : Int) } (a + 8 * zn + 8 * rn) w0 w' := by
 have kz := f_szb h.sc
 have kr := f_rtb h.rc
 rw [hz] at kz
 rw [hr] at kr
 have HA := kQ ha
 have KL : Hid (∀ wx, HX x g s h a w0 wx -> Calls Tryz.prog 136 #[.pointer (some ⟨x, 0, none⟩)] wx fun e w' => e = .returned (.int .i64 (8 * (s.size : Int) - (a : Int))) /\ ∃ n, w' = wx.drewN n) := fun wx hh => left_spec x s (by omega) a (by omega) wx hh.rd
 have KN : Hid (∀ wx, Rd wx x s a -> Calls Tryz.prog 137 #[.pointer (some ⟨x, 0, none⟩), .int .i64 (8 * (zn : Int))] wx fun e w' => e = .returned (.int .i64 (bitsAt s a (8 * zn) : Int)) /\ Rd w' x s (a + 8 * zn) /\ Stays (only x) wx w') := fun wx h => f_next x s hs a (8 * zn) (by omega) (by omega) wx h
 have KM : Hid (∀ wx, Rd wx x s (a + 8 * zn) -> Calls Tryz.prog 137 #[.pointer (some ⟨x, 0, none⟩), .int .i64 (8 * (rn : Int))] wx fun e w' => e = .returned (.int .i64 (bitsAt s (a + 8 * zn) (8 * rn) : Int)) /\ Rd w' x s (a + 8 * zn + 8 * rn) /\ Stays (only x) wx w') := fun wx h => f_next x s hs (a + 8 * zn) (8 * rn) (by omega) (by omega) wx h
 obtain ⟨z0, z1, z2, z3, z4, z5, z6, z7⟩ := ha.cells
 clear ha hz hr
 generalize bitsAt s a (8 * zn) = u at *
 generalize bitsAt s (a + 8 * zn) (8 * rn) = v at *
 go_enter Tryz.func96, Tryz.ntmps96
 go_wp2_with fail
 go_quiet (first | (go_at_call 60; exact Calls.quiet_of_same (kz _)) | (go_at_call 61; exact Calls.quiet_of_same (kr _)))
 have HB : Hid (HX x g s h a w0 (w.drewN nq)) := HA.out.low (below_drewN _ _)
 clear z0 z1 z2 z3 z4 z5 z6 z7 HA kz kr
 generalize w.drewN nq = w1 at *
 go_wp2_with fail
 refine (KL.out _ HB.out).mono ?_
 rintro en w2 ⟨rfl, nn, hw2⟩
 have HC : Hid (HX x g s h a w0 w2) := by rw [hw2]; exact HB.out.low (below_drewN _ _)
 clear hw2 HB KL
 go_wp2_with fail
 refine (KN.out _ HC.out.rd).mono ?_
 rintro en w3 ⟨rfl, hr3, hs3⟩
 have HD := kQ (HC.out.next hr3 hs3)
 clear hr3 hs3 HC KN
 obtain ⟨z0, z1, z2, z3, z4, z5, z6, z7⟩ := HD.out.cells
 have fz := HD.out.f 6
 have HE : Hid (HX x g s { h with sz := (u : Int) } (a + 8 * zn) w0 (w3.setCell ⟨g, 6, none⟩ (.int .i64 (u : Int)))) := HD.out.put 6 _ _ rfl
 go_wp2_with fail
 clear z0 z1 z2 z3 z4 z5 z6 z7 fz HD
 generalize w3.setCell ⟨g, 6, none⟩ (.int .i64 (u : Int)) = w4 at *
 refine (KM.out _ HE.out.rd).mono ?_
 rintro en w5 ⟨rfl, hr5, hs5⟩
 have HF := kQ (HE.out.next hr5 hs5)
 clear hr5 hs5 HE KM
 obtain ⟨z0, z1, z2, z3, z4, z5, z6, z7⟩ := HF.out.cells
 have fz := HF.out.f 7
 have HG : Hid (HX x g s { h with sz := (u : Int), rt := (v : Int) } (a + 8 * zn + 8 * rn) w0 (w5.setCell ⟨g, 7, none⟩ (.int .i64 (v : Int)))) := HF.out.put 7 _ _ rfl
 go_wp2_with fail
 clear z0 z1 z2 z3 z4 z5 z6 z7 fz HF
 go_ret
 exact ⟨rfl, HG.out⟩
theorem f_sum8_end (x : Nat) (s : ByteArray) (hs : s.size <= 140737488351232) (m : Nat) (hm : m <= s.size) (he : 8 * s.size < 8 * m + 8) (w : World) (hr : Rd w x s (8 * m)) :
  Calls Tryz.prog 97 #[.pointer (some ⟨x, 0, none⟩), .string s, .int .i64 8, .func (.func 63) #[] #[]] w fun en w' => en = .returned (.bool false) /\ Lo w w' := by
 have kat := at_spec x s (8 * m) w hr
 have kg := get_end x s (by omega) (8 * m) (by omega) 8 (by decide) he w hr
 clear hr
 go_enter Tryz.func97, Tryz.ntmps97
 go_wp2_with fail
 refine kat.mono ?_
 rintro en w1 ⟨rfl, hw1⟩
 subst hw1
 clear kat
 go_wp2_with fail
 refine kg.mono ?_
 rintro en w2 ⟨rfl, nn, hw2⟩
 have HB : Hid (Lo w1 w2) := by rw [hw2]; exact below_drewN _ _
 clear hw2 kg
 go_wp2_with fail
 go_ret
 exact ⟨rfl, HB.out⟩
theorem f_sum8_yes (x : Nat) (s : ByteArray) (hs : s.size <= 140737488351232) (m : Nat) (hm : 8 * m + 8 <= 8 * s.size) (hc : bitsAt s (8 * m) 8 = crc8N ((bytesOf s).take m)) (w : World) (hr : Rd w x s (8 * m)) (hL : Lay w) (hx4 : 4 <= x) :
  Calls Tryz.prog 97 #[.pointer (some ⟨x, 0, none⟩), .string s, .int .i64 8, .func (.func 63) #[] #[]] w fun en w' => en = .returned (.bool true) /\ Rd w' x s (8 * m + 8) /\ Stays (only x) w w' := by
 have kat := at_spec x s (8 * m) w hr
 have kg := get_ok x s (by omega) (8 * m) 8 (by decide) hm w hr
 have hblt := bitsAt_lt s (8 * m) 8
 have hcr : S3.c8 (s.extract 0 m) = crc8N ((bytesOf s).take m) := by unfold S3.c8 crc8N; rw [head_bytes]
 have KC : Hid (∀ wx, Stays (only x) w wx -> G1 63 #[.string (s.extract 0 m)] wx (.int .i64 (S3.c8 (s.extract 0 m) : Int))) := fun wx hst => S3.crc8_spec (s.extract 0 m) (by rw [extract_size s 0 m (by omega)]; omega) wx (hL.only hst hx4).u
 rw [hcr] at KC
 have hclt : crc8N ((bytesOf s).take m) < 65536 := Nat.lt_trans (crcL p8 0#8 _).isLt (by decide)
 have hbe : ((bitsAt s (8 * m) 8 : Int) == ((crc8N ((bytesOf s).take m) : Nat) : Int)) = true := eQt (by omega)
 clear hr hL hc hcr
 generalize bitsAt s (8 * m) 8 = u at *
 generalize crc8N ((bytesOf s).take m) = v at *
 go_enter Tryz.func97, Tryz.ntmps97
 go_wp2_with fail
 refine kat.mono ?_
 rintro en w1 ⟨rfl, hw1⟩
 subst hw1
 clear kat
 go_wp2_with fail
 refine kg.mono ?_
 rintro en w2 ⟨rfl, hr2, hs2⟩
 have HR : Hid (Rd w2 x s (8 * m + 8) /\ Stays (only x) w1 w2) := ⟨hr2, hs2⟩
 clear hr2 hs2 kg
 go_wp2_with fail
 refine (KC.out _ HR.out.2).mono ?_
 rintro en w3 ⟨rfl, hb3⟩
 have HR3 : Hid (Rd w3 x s (8 * m + 8) /\ Stays (only x) w1 w3) := ⟨by unfold Rd; rw [hb3.block _ HR.out.1.lt]; exact HR.out.1, HR.out.2.trans (Stays.of_below hb3 (only x)) (fun _ _ h => h)⟩
 clear hb3 HR KC
 go_wp2_with fail
 go_ret
 exact ⟨rfl, HR3.out⟩
theorem f_sum8_no (x : Nat) (s : ByteArray) (hs : s.size <= 140737488351232) (m : Nat) (hm : 8 * m + 8 <= 8 * s.size) (hc : ¬ bitsAt s (8 * m) 8 = crc8N ((bytesOf s).take m)) (w : World) (hr : Rd w x s (8 * m)) (hL : Lay w) (hx4 : 4 <= x) :
  Calls Tryz.prog 97 #[.pointer (some ⟨x, 0, none⟩), .string s, .int .i64 8, .func (.func 63) #[] #[]] w fun en w' => en = .returned (.bool false) /\ Rd w' x s (8 * m + 8) /\ Stays (only x) w w' := by
 have kat := at_spec x s (8 * m) w hr
 have kg := get_ok x s (by omega) (8 * m) 8 (by decide) hm w hr
 have hblt := bitsAt_lt s (8 * m) 8
 have hcr : S3.c8 (s.extract 0 m) = crc8N ((bytesOf s).take m) := by unfold S3.c8 crc8N; rw [head_bytes]
 have KC : Hid (∀ wx, Stays (only x) w wx -> G1 63 #[.string (s.extract 0 m)] wx (.int .i64 (S3.c8 (s.extract 0 m) : Int))) := fun wx hst => S3.crc8_spec (s.extract 0 m) (by rw [extract_size s 0 m (by omega)]; omega) wx (hL.only hst hx4).u
 rw [hcr] at KC
 have hclt : crc8N ((bytesOf s).take m) < 65536 := Nat.lt_trans (crcL p8 0#8 _).isLt (by decide)
 have hbe : ((bitsAt s (8 * m) 8 : Int) == ((crc8N ((bytesOf s).take m) : Nat) : Int)) = false := eQf (by omega)
 clear hr hL hc hcr
 generalize bitsAt s (8 * m) 8 = u at *
 generalize crc8N ((bytesOf s).take m) = v at *
 go_enter Tryz.func97, Tryz.ntmps97
 go_wp2_with fail
 refine kat.mono ?_
 rintro en w1 ⟨rfl, hw1⟩
 subst hw1
 clear kat
 go_wp2_with fail
 refine kg.mono ?_
 rintro en w2 ⟨rfl, hr2, hs2⟩
 have HR : Hid (Rd w2 x s (8 * m + 8) /\ Stays (only x) w1 w2) := ⟨hr2, hs2⟩
 clear hr2 hs2 kg
 go_wp2_with fail
 refine (KC.out _ HR.out.2).mono ?_
 rintro en w3 ⟨rfl, hb3⟩
 have HR3 : Hid (Rd w3 x s (8 * m + 8) /\ Stays (only x) w1 w3) := ⟨by unfold Rd; rw [hb3.block _ HR.out.1.lt]; exact HR.out.1, HR.out.2.trans (Stays.of_below hb3 (only x)) (fun _ _ h => h)⟩
 clear hb3 HR KC
 go_wp2_with fail
 go_ret
 exact ⟨rfl, HR3.out⟩
theorem f_sum16_end (x : Nat) (s : ByteArray) (hs : s.size <= 140737488351232) (m : Nat) (hm : m <= s.size) (he : 8 * s.size < 8 * m + 16) (w : World) (hr : Rd w x s (8 * m)) :
  Calls Tryz.prog 97 #[.pointer (some ⟨x, 0, none⟩), .string s, .int .i64 16, .func (.func 25) #[] #[]] w fun en w' => en = .returned (.bool false) /\ Lo w w' := by
 have kat := at_spec x s (8 * m) w hr
 have kg := get_end x s (by omega) (8 * m) (by omega) 16 (by decide) he w hr
 clear hr
 go_enter Tryz.func97, Tryz.ntmps97
 go_wp2_with fail
 refine kat.mono ?_
 rintro en w1 ⟨rfl, hw1⟩
 subst hw1
 clear kat
 go_wp2_with fail
 refine kg.mono ?_
 rintro en w2 ⟨rfl, nn, hw2⟩
 have HB : Hid (Lo w1 w2) := by rw [hw2]; exact below_drewN _ _
 clear hw2 kg
 go_wp2_with fail
 go_ret
 exact ⟨rfl, HB.out⟩
theorem f_sum16_yes (x : Nat) (s : ByteArray) (hs : s.size <= 140737488351232) (m : Nat) (hm : 8 * m + 16 <= 8 * s.size) (hc : bitsAt s (8 * m) 16 = crc16N ((bytesOf s).take m)) (w : World) (hr : Rd w x s (8 * m)) (hL : Lay w) (hx4 : 4 <= x) :
  Calls Tryz.prog 97 #[.pointer (some ⟨x, 0, none⟩), .string s, .int .i64 16, .func (.func 25) #[] #[]] w fun en w' => en = .returned (.bool true) /\ Rd w' x s (8 * m + 16) /\ Stays (only x) w w' := by
 have kat := at_spec x s (8 * m) w hr
 have kg := get_ok x s (by omega) (8 * m) 16 (by decide) hm w hr
 have hblt := bitsAt_lt s (8 * m) 16
 have hcr : S3.c16 (s.extract 0 m) = crc16N ((bytesOf s).take m) := by unfold S3.c16 crc16N; rw [head_bytes]
 have KC : Hid (∀ wx, Stays (only x) w wx -> G1 25 #[.string (s.extract 0 m)] wx (.int .i64 (S3.c16 (s.extract 0 m) : Int))) := fun wx hst => S3.crc16_spec (s.extract 0 m) (by rw [extract_size s 0 m (by omega)]; omega) wx (hL.only hst hx4).u
 rw [hcr] at KC
 have hclt : crc16N ((bytesOf s).take m) < 65536 := crc16_lt _
 have hbe : ((bitsAt s (8 * m) 16 : Int) == ((crc16N ((bytesOf s).take m) : Nat) : Int)) = true := eQt (by omega)
 clear hr hL hc hcr
 generalize bitsAt s (8 * m) 16 = u at *
 generalize crc16N ((bytesOf s).take m) = v at *
 go_enter Tryz.func97, Tryz.ntmps97
 go_wp2_with fail
 refine kat.mono ?_
 rintro en w1 ⟨rfl, hw1⟩
 subst hw1
 clear kat
 go_wp2_with fail
 refine kg.mono ?_
 rintro en w2 ⟨rfl, hr2, hs2⟩
 have HR : Hid (Rd w2 x s (8 * m + 16) /\ Stays (only x) w1 w2) := ⟨hr2, hs2⟩
 clear hr2 hs2 kg
 go_wp2_with fail
 refine (KC.out _ HR.out.2).mono ?_
 rintro en w3 ⟨rfl, hb3⟩
 have HR3 : Hid (Rd w3 x s (8 * m + 16) /\ Stays (only x) w1 w3) := ⟨by unfold Rd; rw [hb3.block _ HR.out.1.lt]; exact HR.out.1, HR.out.2.trans (Stays.of_below hb3 (only x)) (fun _ _ h => h)⟩
 clear hb3 HR KC
 go_wp2_with fail
 go_ret
 exact ⟨rfl, HR3.out⟩
theorem bitsOf_zero (k : Nat) : bitsOf 0 k = List.replicate k 0 := by
 have h := bitsOf_num (List.replicate k 0) (fun b hb => by rw [(List.mem_replicate.1 hb).2]; decide)
 rw [num_zeros, List.length_replicate] at h
 exact h
theorem pad_zero (s : ByteArray) (a1 : Nat) (ha : a1 <= 8 * s.size) : bitsAt s a1 (padOf a1) = 0 ↔ (ahead s a1).take (8 * ((a1 + 7) / 8) - a1) = List.replicate (8 * ((a1 + 7) / 8) - a1) 0 := by
 have hp : padOf a1 = 8 * ((a1 + 7) / 8) - a1 := by unfold padOf; omega
 rw [hp]
 generalize hk : 8 * ((a1 + 7) / 8) - a1 = k
 have hl : ((ahead s a1).take k).length = k := by rw [List.length_take, ahead_length]; omega
 have h01 : Bits01 ((ahead s a1).take k) := (ahead_01 s a1).take k
 have hb : bitsAt s a1 k = num ((ahead s a1).take k) := rfl
 rw [hb]
 constructor
 ·intro h
  have e := bitsOf_num _ h01
  rw [h, hl] at e
  rw [<- e]
  exact bitsOf_zero k
 ·intro h
  rw [h]; exact num_zeros k
theorem pad_at (a1 : Nat) : a1 + padOf a1 = 8 * ((a1 + 7) / 8) := by unfold padOf; omega
theorem re_pad (x : Nat) (s : ByteArray) (hs : s.size <= 140737488351232) (a1 m : Nat) (hm : m = (a1 + 7) / 8) (ha : a1 <= 8 * s.size) (w : World) (hr : Rd w x s a1) (hL : Lay w) (hx4 : 4 <= x) (hp : ¬ bitsAt s a1 (padOf a1) = 0) : Calls Tryz.prog 47 #[.pointer (some ⟨x, 0, none⟩), .string s] w fun en w' => en = .returned (.bool false) /\ Stays (only x) w w' := by
 have kal := ralign_spec x s (by omega) a1 ha w hr
 rw [pad_at, <- hm] at kal
 have hbe : ((bitsAt s a1 (padOf a1) : Int) == 0) = false := eQf (by omega)
 clear hp hr hL
 generalize bitsAt s a1 (padOf a1) = u at *
 go_enter Tryz.func47, Tryz.ntmps47
 go_wp2_with fail
 refine kal.mono ?_
 rintro en w1 ⟨rfl, h1, h2⟩
 have HR : Hid (Rd w1 x s (8 * m) /\ Stays (only x) w w1) := ⟨h1, h2⟩
 clear h1 h2 kal
 go_wp2_with fail
 go_ret
 exact ⟨rfl, HR.out.2⟩
theorem re_end (x : Nat) (s : ByteArray) (hs : s.size <= 140737488351232) (a1 m : Nat) (hm : m = (a1 + 7) / 8) (ha : a1 <= 8 * s.size) (w : World) (hr : Rd w x s a1) (hL : Lay w) (hx4 : 4 <= x) (hp : bitsAt s a1 (padOf a1) = 0) (he : 8 * s.size < 8 * m + 16) : Calls Tryz.prog 47 #[.pointer (some ⟨x, 0, none⟩), .string s] w fun en w' => en = .returned (.bool false) /\ Stays (only x) w w' := by
 have kal := ralign_spec x s (by omega) a1 ha w hr
 rw [pad_at, <- hm] at kal
 have KS : Hid (∀ wx, (Rd wx x s (8 * m) /\ Stays (only x) w wx) -> Calls Tryz.prog 97 #[.pointer (some ⟨x, 0, none⟩), .string s, .int .i64 16, .func (.func 25) #[] #[]] wx fun en w' => en = .returned (.bool false) /\ Stays (only x) w w') := fun wx hh => (f_sum16_end x s hs m (by omega) he wx hh.1).mono fun en w' q => ⟨q.1, hh.2.trans (Stays.of_below q.2 (only x)) (fun _ _ h => h)⟩
 have hbe : ((bitsAt s a1 (padOf a1) : Int) == 0) = true := eQt (by omega)
 clear hp hr hL
 generalize bitsAt s a1 (padOf a1) = u at *
 go_enter Tryz.func47, Tryz.ntmps47
 go_wp2_with fail
 refine kal.mono ?_
 rintro en w1 ⟨rfl, h1, h2⟩
 have HR : Hid (Rd w1 x s (8 * m) /\ Stays (only x) w w1) := ⟨h1, h2⟩
 clear h1 h2 kal
 go_wp2_with fail
 refine (KS.out _ HR.out).mono ?_
 rintro en w2 ⟨rfl, hs2⟩
 have HS := kQ hs2
 clear hs2
 clear KS HR
 go_wp2_with fail
 go_ret
 exact ⟨rfl, HS.out⟩
theorem re_ok (x : Nat) (s : ByteArray) (hs : s.size <= 140737488351232) (a1 m : Nat) (hm : m = (a1 + 7) / 8) (ha : a1 <= 8 * s.size) (w : World) (hr : Rd w x s a1) (hL : Lay w) (hx4 : 4 <= x) (hp : bitsAt s a1 (padOf a1) = 0) (he : 8 * m + 16 <= 8 * s.size) (hc : bitsAt s (8 * m) 16 = crc16N ((bytesOf s).take m)) : Calls Tryz.prog 47 #[.pointer (some ⟨x, 0, none⟩), .string s] w fun en w' => en = .returned (.bool true) /\ Rd w' x s (8 * m + 16) /\ Stays (only x) w w' := by
 have kal := ralign_spec x s (by omega) a1 ha w hr
 rw [pad_at, <- hm] at kal
 have KS : Hid (∀ wx, (Rd wx x s (8 * m) /\ Stays (only x) w wx) -> Calls Tryz.prog 97 #[.pointer (some ⟨x, 0, none⟩), .string s, .int .i64 16, .func (.func 25) #[] #[]] wx fun en w' => en = .returned (.bool true) /\ Rd w' x s (8 * m + 16) /\ Stays (only x) w w') := fun wx hh => (f_sum16_yes x s hs m he hc wx hh.1 (hL.only hh.2 hx4) hx4).mono fun en w' q => ⟨q.1, q.2.1, hh.2.trans q.2.2 (fun _ _ h => h)⟩
 have hbe : ((bitsAt s a1 (padOf a1) : Int) == 0) = true := eQt (by omega)
 clear hp hr hL
 generalize bitsAt s a1 (padOf a1) = u at *
 go_enter Tryz.func47, Tryz.ntmps47
 go_wp2_with fail
 refine kal.mono ?_
 rintro en w1 ⟨rfl, h1, h2⟩
 have HR : Hid (Rd w1 x s (8 * m) /\ Stays (only x) w w1) := ⟨h1, h2⟩
 clear h1 h2 kal
 go_wp2_with fail
 refine (KS.out _ HR.out).mono ?_
 rintro en w2 ⟨rfl, hr2, hs2⟩
 have HS : Hid (Rd w2 x s (8 * m + 16) /\ Stays (only x) w w2) := ⟨hr2, hs2⟩
 clear hr2 hs2
 clear KS HR
 go_wp2_with fail
 go_ret
 exact ⟨rfl, HS.out⟩
end Go.Proofs.YtfpfabmbipmipaaGreatDoor
