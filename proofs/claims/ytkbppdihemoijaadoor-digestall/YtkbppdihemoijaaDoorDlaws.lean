/- Own text: the walks of the four laws on the digest, over whatever the program's calls do: what they must do is the structure Does. -/
import Derived.Test.YtkbppdihemoijaaDoorMdhex
import Derived.Deep.RegionWith
namespace Go.Proofs.YtkbppdihemoijaaDoor
open Go.RowKit
set_option linter.unusedSimpArgs false
set_option linter.unusedVariables false

/-- What the program's calls do: in worlds that are OK; St B w q l: the sum at block q holds the bytes l, all its memory from block B on. -/
structure Does (OK : World → Prop) (St : Nat → World → Nat → List Nat → Prop) (B0 : Nat) : Prop where
  ok : ∀ w w', OK w → Below B0 w w' → OK w'
  new : ∀ w, OK w → Calls Tryd.prog 12 #[] w fun e w' => ∃ q, e = .returned (.pointer (some ⟨q, 0, none⟩)) ∧ St w.heap.size w' q [] ∧ Below w.heap.size w w'
  add : ∀ w B q l (s : ByteArray), OK w → s.size ≤ 140737488351232 → l.length + s.size ≤ 10000000000000000 → St B w q l → Calls Tryd.prog 13 #[.pointer (some ⟨q, 0, none⟩), .string s] w fun e w' => e = .returned (.tuple #[]) ∧ St B w' q (l ++ bytesOf s) ∧ Below B w w'
  val : ∀ w B q l, OK w → l.length ≤ 10000000000000000 → (∀ b ∈ l, b < 256) → St B w q l → Calls Tryd.prog 14 #[.pointer (some ⟨q, 0, none⟩)] w fun e w' => e = .returned (.string (textOf (md5 l))) ∧ St B w' q l ∧ Below B w w'
  len : ∀ w B q l, OK w → l.length ≤ 10000000000000000 → St B w q l → Calls Tryd.prog 15 #[.pointer (some ⟨q, 0, none⟩)] w fun e w' => e = .returned (.int .i64 (l.length : Int)) ∧ St B w' q l ∧ Below B w w'
  keep : ∀ w w' B q l, St B w q l → Below w.heap.size w w' → St B w' q l
  of : ∀ w (s : ByteArray), OK w → s.size ≤ 10000000000000000 → Calls Tryd.prog 7 #[.string s] w fun e w' => e = .returned (.string (textOf (md5 (bytesOf s)))) ∧ Below w.heap.size w w'
  hex : ∀ w (s : ByteArray), OK w → s.size ≤ 10000000000000000 → Calls Tryd.prog 9 #[.string s] w fun e w' => e = .returned (.string (textOf (hexL (md5 (bytesOf s))))) ∧ Below w.heap.size w w'

theorem ex_none : textOf (hexL (md5 (bytesOf ⟨#[]⟩))) = ⟨#[100, 52, 49, 100, 56, 99, 100, 57, 56, 102, 48, 48, 98, 50, 48, 52, 101, 57, 56, 48, 48, 57, 57, 56, 101, 99, 102, 56, 52, 50, 55, 101]⟩ := by decide +kernel
theorem ex_abc : textOf (hexL (md5 (bytesOf ⟨#[97, 98, 99]⟩))) = ⟨#[57, 48, 48, 49, 53, 48, 57, 56, 51, 99, 100, 50, 52, 102, 98, 48, 100, 54, 57, 54, 51, 102, 55, 100, 50, 56, 101, 49, 55, 102, 55, 50]⟩ := by decide +kernel
def eighty : ByteArray := ⟨((List.replicate 8 [49, 50, 51, 52, 53, 54, 55, 56, 57, 48]).flatten).toArray⟩
theorem ex_eighty : textOf (hexL (md5 (bytesOf eighty))) = ⟨#[53, 55, 101, 100, 102, 52, 97, 50, 50, 98, 101, 51, 99, 57, 53, 53, 97, 99, 52, 57, 100, 97, 50, 101, 50, 49, 48, 55, 98, 54, 55, 97]⟩ := by decide +kernel

set_option maxRecDepth 200000 in
set_option maxHeartbeats 1600000 in
theorem awake_of (OK : World → Prop) (hex : ∀ w (s : ByteArray), OK w → s.size ≤ 10000000000000000 → Calls Tryd.prog 9 #[.string s] w fun e w' => e = .returned (.string (textOf (hexL (md5 (bytesOf s))))) ∧ Below w.heap.size w w')
    (B0 : Nat) (ok : ∀ w w', OK w → Below B0 w w' → OK w') (w : World) (hw : OK w) (hB0 : B0 ≤ w.heap.size) :
    Calls Tryd.prog 11 #[] w fun e w' => e = .returned (.bool true) ∧ Below w.heap.size w w' := by
  have k1 := fun w h => hex w ⟨#[]⟩ h (by decide)
  have k2 := fun w h => hex w ⟨#[97, 98, 99]⟩ h (by decide)
  have k3 := fun w h => hex w eighty h (by decide)
  rw [ex_none] at k1
  rw [ex_abc] at k2
  rw [ex_eighty] at k3
  have HO : Hid (∀ w w', OK w → Below B0 w w' → OK w') := ok
  have H0 : Hid (OK w) := hw
  clear hex ok hw
  go_enter Tryd.func11, Tryd.ntmps11
  generalize hT : ByteArray.mk (List.toArray (List.append _ _)) = T
  have hTe : T = eighty := by
    rw [← hT]
    decide +kernel
  clear hT
  subst hTe
  go_wp2_with fail
  refine (k1 _ H0.out).mono ?_
  rintro e w1 ⟨rfl, hB⟩
  have B1 : Hid (Below w.heap.size w w1) := hB
  have H1 : Hid (OK w1) := HO.out _ _ H0.out (hB.mono hB0)
  clear hB
  go_wp2_with fail
  refine (k2 _ H1.out).mono ?_
  rintro e w2 ⟨rfl, hB⟩
  have B2 : Hid (Below w.heap.size w w2) := B1.out.trans (hB.mono B1.out.size)
  have H2 : Hid (OK w2) := HO.out _ _ H1.out (hB.mono (Nat.le_trans hB0 B1.out.size))
  clear hB
  go_wp2_with fail
  refine (k3 _ H2.out).mono ?_
  rintro e w3 ⟨rfl, hB⟩
  have B3 : Hid (Below w.heap.size w w3) := B2.out.trans (hB.mono B2.out.size)
  clear hB
  go_wp2
  go_ret
  exact ⟨rfl, B3.out⟩

set_option maxRecDepth 200000 in
set_option maxHeartbeats 1600000 in
theorem all_of (OK : World → Prop) (St : Nat → World → Nat → List Nat → Prop) (w : World) (D : Does OK St w.heap.size) (hw : OK w) (s : ByteArray) (hs : s.size ≤ 140737488351232) :
    Calls Tryd.prog 3 #[.string s] w fun e w' => e = .returned (.bool true) ∧ Below w.heap.size w w' := by
  have k1 := D.of w s hw (by omega)
  have k2 := fun w => refOf_spec s (by omega) w
  have k3 := fun w h => D.hex w s h (by omega)
  have k4 := fun w => refHex_spec s (by omega) w
  have k5 := fun w' h hB => awake_of OK D.hex w.heap.size D.ok w' h hB
  have HO : Hid (∀ a b, OK a → Below w.heap.size a b → OK b) := D.ok
  have H0 : Hid (OK w) := hw
  clear D hw
  generalize textOf (md5 (bytesOf s)) = x at *
  generalize textOf (hexL (md5 (bytesOf s))) = y at *
  go_enter Tryd.func3, Tryd.ntmps3
  go_wp2_with fail
  refine k1.mono ?_
  rintro e w1 ⟨rfl, hB⟩
  have B1 : Hid (Below w.heap.size w w1) := hB
  have H1 : Hid (OK w1) := HO.out _ _ H0.out hB
  clear hB k1
  go_wp2_with fail
  refine (k2 _).mono ?_
  rintro e w2 ⟨rfl, hB⟩
  have B2 : Hid (Below w.heap.size w w2) := B1.out.trans (hB.mono B1.out.size)
  have H2 : Hid (OK w2) := HO.out _ _ H1.out (hB.mono B1.out.size)
  clear hB
  go_wp2_with fail
  refine (k3 _ H2.out).mono ?_
  rintro e w3 ⟨rfl, hB⟩
  have B3 : Hid (Below w.heap.size w w3) := B2.out.trans (hB.mono B2.out.size)
  have H3 : Hid (OK w3) := HO.out _ _ H2.out (hB.mono B2.out.size)
  clear hB
  go_wp2_with fail
  refine (k4 _).mono ?_
  rintro e w4 ⟨rfl, hB⟩
  have B4 : Hid (Below w.heap.size w w4) := B3.out.trans (hB.mono B3.out.size)
  have H4 : Hid (OK w4) := HO.out _ _ H3.out (hB.mono B3.out.size)
  clear hB
  go_wp2_with fail
  refine (k5 _ H4.out B4.out.size).mono ?_
  rintro e w5 ⟨rfl, hB⟩
  have B5 : Hid (Below w.heap.size w w5) := B4.out.trans (hB.mono B4.out.size)
  clear hB
  go_wp2
  go_ret
  exact ⟨rfl, B5.out⟩

/-- What the program's calls do with a sum that is none. -/
structure DoesNone (OK : World → Prop) : Prop where
  add : ∀ w (s : ByteArray), OK w → Calls Tryd.prog 13 #[.pointer none, .string s] w fun e w' => e = .returned (.tuple #[]) ∧ w' = w
  val : ∀ w, OK w → Calls Tryd.prog 14 #[.pointer none] w fun e w' => e = .returned (.string ⟨#[]⟩) ∧ w' = w
  len : ∀ w, OK w → Calls Tryd.prog 15 #[.pointer none] w fun e w' => e = .returned (.int .i64 0) ∧ w' = w

set_option maxRecDepth 200000 in
set_option maxHeartbeats 1600000 in
theorem none_of (OK : World → Prop) (St : Nat → World → Nat → List Nat → Prop) (w : World) (D : Does OK St w.heap.size) (DN : DoesNone OK) (hw : OK w) (s : ByteArray) :
    Calls Tryd.prog 6 #[.string s] w fun e w' => e = .returned (.bool true) ∧ Below w.heap.size w w' := by
  have k1 := DN.add w s hw
  have k2 := DN.val w hw
  have k3 := DN.len w hw
  have k5 := awake_of OK D.hex w.heap.size D.ok w hw (Nat.le_refl _)
  clear D DN hw
  go_enter Tryd.func6, Tryd.ntmps6
  go_wp2_with fail
  refine k1.mono ?_
  rintro e w1 ⟨rfl, hw1⟩
  rw [hw1]
  clear hw1 k1
  go_wp2_with fail
  refine k2.mono ?_
  rintro e w1 ⟨rfl, hw1⟩
  rw [hw1]
  clear hw1 k2
  go_wp2_with fail
  refine k3.mono ?_
  rintro e w1 ⟨rfl, hw1⟩
  rw [hw1]
  clear hw1 k3
  go_wp2_with fail
  refine k5.mono ?_
  rintro e w5 ⟨rfl, hB⟩
  have B5 : Hid (Below w.heap.size w w5) := hB
  clear hB
  go_wp2
  go_ret
  exact ⟨rfl, B5.out⟩

set_option maxRecDepth 200000 in
set_option maxHeartbeats 3200000 in
theorem cuts_of (OK : World → Prop) (St : Nat → World → Nat → List Nat → Prop) (w : World) (D : Does OK St w.heap.size) (hw : OK w) (s : ByteArray) (hs : s.size ≤ 140737488351232) (at_ : Int) (a1 : -9223372036854775808 ≤ at_) (a2 : at_ ≤ 9223372036854775807) :
    Calls Tryd.prog 5 #[.string s, .int .i64 at_] w fun e w' => e = .returned (.bool true) ∧ Below w.heap.size w w' := by
  obtain ⟨m, hm0, hm1⟩ : ∃ m : Int, (if (s.size : Int) < at_ then (s.size : Int) else at_) = m ∧ m ≤ s.size := ⟨_, rfl, by split <;> omega⟩
  obtain ⟨k, hk, hks⟩ : ∃ k : Nat, (if 0 < m then m else 0) = (k : Int) ∧ k ≤ s.size := ⟨(if 0 < m then m else 0).toNat, by split <;> omega, by split <;> omega⟩
  have hmm : min at_ (s.size : Int) = m := by rw [← hm0]; split <;> omega
  have hkk : max 0 m = (k : Int) := by rw [← hk]; split <;> omega
  have hl1 : (s.extract 0 k).size = k := by rw [ByteArray.size_extract]; omega
  have hl2 : (s.extract k s.size).size = s.size - k := by rw [ByteArray.size_extract]; omega
  have hjoin : bytesOf (s.extract 0 k) ++ bytesOf (s.extract k s.size) = bytesOf s := by
    rw [bytesOf_extract, bytesOf_extract, List.drop_zero, List.take_of_length_le (i := s.size) (by rw [bytesOf_length]; exact Nat.le_refl _), List.take_append_drop]
  have hm : (textOf (md5 (bytesOf s))).size = 16 := by rw [textOf_size, md5_length]
  have hh : (textOf (hexL (md5 (bytesOf s)))).size = 32 := by rw [textOf_size, hexL_length, md5_length]
  have HD : Hid (Does OK St w.heap.size) := D
  have H0 : Hid (OK w) := hw
  have KO : Hid (∀ w, OK w → Calls Tryd.prog 7 #[.string s] w fun e w' => e = .returned (.string (textOf (md5 (bytesOf s)))) ∧ Below w.heap.size w w') := fun w h => D.of w s h (by omega)
  have KH : Hid (∀ w, OK w → Calls Tryd.prog 9 #[.string s] w fun e w' => e = .returned (.string (textOf (hexL (md5 (bytesOf s))))) ∧ Below w.heap.size w w') := fun w h => D.hex w s h (by omega)
  have KV : Hid (∀ w B q, OK w → St B w q (bytesOf s) → Calls Tryd.prog 14 #[.pointer (some ⟨q, 0, none⟩)] w fun e w' => e = .returned (.string (textOf (md5 (bytesOf s)))) ∧ St B w' q (bytesOf s) ∧ Below B w w') := fun w B q h hst => D.val w B q _ h (by rw [bytesOf_length]; omega) (bytesOf_lt s) hst
  have KA1 : Hid (∀ w B q, OK w → St B w q [] → Calls Tryd.prog 13 #[.pointer (some ⟨q, 0, none⟩), .string (s.extract 0 k)] w fun e w' => e = .returned (.tuple #[]) ∧ St B w' q (bytesOf (s.extract 0 k)) ∧ Below B w w') := fun w B q h hst => D.add w B q [] _ h (by omega) (by rw [List.length_nil]; omega) hst
  have KA2 : Hid (∀ w B q, OK w → St B w q (bytesOf (s.extract 0 k)) → Calls Tryd.prog 13 #[.pointer (some ⟨q, 0, none⟩), .string (s.extract k s.size)] w fun e w' => e = .returned (.tuple #[]) ∧ St B w' q (bytesOf s) ∧ Below B w w') := fun w B q h hst => by
    have := D.add w B q (bytesOf (s.extract 0 k)) (s.extract k s.size) h (by omega) (by rw [bytesOf_length]; omega) hst
    rwa [hjoin] at this
  clear D hw hl1 hl2 hjoin
  generalize textOf (md5 (bytesOf s)) = x at *
  generalize textOf (hexL (md5 (bytesOf s))) = y at *
  go_enter Tryd.func5, Tryd.ntmps5
  go_wp2_with fail
  refine (HD.out.new w H0.out).mono ?_
  rintro e w1 ⟨q, rfl, hst, hB⟩
  have S1 : Hid (St w.heap.size w1 q []) := hst
  have B1 : Hid (Below w.heap.size w w1) := hB
  have H1 : Hid (OK w1) := HD.out.ok _ _ H0.out hB
  clear hst hB
  go_wp2_with fail
  refine (KA1.out w1 _ q H1.out S1.out).mono ?_
  rintro e w2 ⟨rfl, hst, hB⟩
  have S2 : Hid (St w.heap.size w2 q (bytesOf (s.extract 0 k))) := hst
  have B2 : Hid (Below w.heap.size w w2) := B1.out.trans hB
  have H2 : Hid (OK w2) := HD.out.ok _ _ H1.out hB
  clear hst hB
  go_wp2_with fail
  refine (KA2.out w2 _ q H2.out S2.out).mono ?_
  rintro e w3 ⟨rfl, hst, hB⟩
  have S3 : Hid (St w.heap.size w3 q (bytesOf s)) := hst
  have B3 : Hid (Below w.heap.size w w3) := B2.out.trans hB
  have H3 : Hid (OK w3) := HD.out.ok _ _ H2.out hB
  clear hst hB
  go_wp2_with fail
  refine (KV.out w3 _ q H3.out S3.out).mono ?_
  rintro e w4 ⟨rfl, hst, hB⟩
  have B4 : Hid (Below w.heap.size w w4) := B3.out.trans hB
  have H4 : Hid (OK w4) := HD.out.ok _ _ H3.out hB
  clear hst hB
  go_wp2_with fail
  refine (KO.out w4 H4.out).mono ?_
  rintro e w5 ⟨rfl, hB⟩
  have B5 : Hid (Below w.heap.size w w5) := B4.out.trans (hB.mono B4.out.size)
  have H5 : Hid (OK w5) := HD.out.ok _ _ H4.out (hB.mono B4.out.size)
  clear hB
  go_wp2_with fail
  refine (KO.out w5 H5.out).mono ?_
  rintro e w6 ⟨rfl, hB⟩
  have B6 : Hid (Below w.heap.size w w6) := B5.out.trans (hB.mono B5.out.size)
  have H6 : Hid (OK w6) := HD.out.ok _ _ H5.out (hB.mono B5.out.size)
  clear hB
  go_wp2_with fail
  refine (KH.out w6 H6.out).mono ?_
  rintro e w7 ⟨rfl, hB⟩
  have B7 : Hid (Below w.heap.size w w7) := B6.out.trans (hB.mono B6.out.size)
  have H7 : Hid (OK w7) := HD.out.ok _ _ H6.out (hB.mono B6.out.size)
  clear hB
  go_wp2_with fail
  refine (awake_of OK HD.out.hex w.heap.size HD.out.ok w7 H7.out B7.out.size).mono ?_
  rintro e w8 ⟨rfl, hB⟩
  have B8 : Hid (Below w.heap.size w w8) := B7.out.trans (hB.mono B7.out.size)
  clear hB
  go_wp2
  go_ret
  exact ⟨rfl, B8.out⟩

/-- The first i texts, one behind the other. -/
def joined (f : Nat → ByteArray) : Nat → ByteArray
  | 0 => ⟨#[]⟩
  | i + 1 => joined f i ++ f i

theorem joined_size (f : Nat → ByteArray) (h : ∀ i, i < 50 → (f i).size ≤ 140737488351232) : ∀ i, i ≤ 50 → (joined f i).size ≤ i * 140737488351232
  | 0, _ => Nat.zero_le _
  | i + 1, hi => by
    have h1 := joined_size f h i (by omega)
    have h2 := h i (by omega)
    have h3 : (joined f (i + 1)).size = (joined f i).size + (f i).size := by
      show (joined f i ++ f i).size = _
      rw [ByteArray.size_append]
    omega

/-- What stays through the loop. -/
structure Held (OK : World → Prop) (St : Nat → World → Nat → List Nat → Prop) (w0 : World) (q : Nat) (l : List Nat) (w : World) : Prop where
  ok : OK w
  st : St w0.heap.size w q l
  below : Below w0.heap.size w0 w

set_option maxRecDepth 200000 in
set_option maxHeartbeats 3200000 in
theorem pieces_of (OK : World → Prop) (St : Nat → World → Nat → List Nat → Prop) (w : World) (D : Does OK St w.heap.size) (hw : OK w)
    (ao : Option Addr) (len cap b off : Nat) (f : Nat → ByteArray) (hlen : len ≤ 9223372036854775807) (hf : ∀ i, i < len → (f i).size ≤ 140737488351232) (hf0 : ∀ i, len ≤ i → f i = ⟨#[]⟩)
    (hao : 0 < len → ao = some ⟨b, off, none⟩) (hcells : ∀ i, i < len → w.cell? ⟨b, off + i, none⟩ = some (.string (f i))) :
    Calls Tryd.prog 4 #[.slice ao len cap] w fun e w' => e = .returned (.bool true) ∧ Below w.heap.size w w' := by
  have HD : Hid (Does OK St w.heap.size) := D
  have H0 : Hid (OK w) := hw
  have HAO : Hid (0 < len → ao = some ⟨b, off, none⟩) := hao
  have HC : Hid (∀ i, i < len → w.cell? ⟨b, off + i, none⟩ = some (.string (f i))) := hcells
  have HF : Hid (∀ i, i < len → (f i).size ≤ 140737488351232) := hf
  have HJ : Hid (∀ i, i ≤ 50 → (joined f i).size ≤ i * 140737488351232) := joined_size f (fun i _ => by
    by_cases h : i < len
    · exact hf i h
    · rw [hf0 i (by omega)]
      exact Nat.zero_le _)
  clear D hw hao hcells hf hf0
  go_enter Tryd.func4, Tryd.ntmps4
  go_wp2_with fail
  refine (HD.out.new w H0.out).mono ?_
  rintro e w1 ⟨q, rfl, hst, hB⟩
  have H1 : Hid (Held OK St w q [] w1) := ⟨HD.out.ok _ _ H0.out hB, hst, hB⟩
  clear hst hB
  go_wp2_with fail
  go_loopw [4, 5] (fun x t wr => ∃ i : Nat, i ≤ len ∧ i ≤ 50 ∧ x = .string (joined f i) ∧ t = .int .i64 (i : Int) ∧ Held OK St w q (bytesOf (joined f i)) wr) (fun _ t _ => 50 - (intOf t).toNat)
  case atStart => exact ⟨0, Nat.zero_le _, Nat.zero_le _, rfl, rfl, H1.out⟩
  case round =>
    clear H1
    obtain ⟨i, hi, hi50, rfl, rfl, hh⟩ := hrel
    have HH : Hid (Held OK St w q (bytesOf (joined f i)) wr) := hh
    clear hh
    have hsj := HJ.out i hi50
    by_cases hgo : i < len ∧ i < 50
    · obtain ⟨hlt, hlt50⟩ := hgo
      obtain rfl := HAO.out (by omega)
      have hs1 := HF.out i hlt
      have hblk : b < w.heap.size := by
        have := World.block_lt_of_cell? w _ (HC.out i hlt)
        simpa using this
      have HCB : Hid (∀ wx, Below w.heap.size w wx → wx.cell? ⟨b, off + i, none⟩ = some (.string (f i))) := fun wx hx => by
        rw [hx.cell (by simpa using hblk)]
        exact HC.out i hlt
      have ci := HCB.out wr HH.out.below
      clear hblk
      go_wp2_with fail
      refine (HD.out.add wr _ q _ (f i) HH.out.ok hs1 (by rw [bytesOf_length]; omega) HH.out.st).mono ?_
      rintro e w3 ⟨rfl, h3, hB⟩
      have e3 : bytesOf (joined f (i + 1)) = bytesOf (joined f i) ++ bytesOf (f i) := bytesOf_append _ _
      have HH3 : Hid (Held OK St w q (bytesOf (joined f (i + 1))) w3) := ⟨HD.out.ok _ _ HH.out.ok hB, by rw [e3]; exact h3, HH.out.below.trans hB⟩
      clear h3 hB e3
      have c3 := HCB.out w3 HH3.out.below
      have hj : joined f i ++ f i = joined f (i + 1) := rfl
      have hj2 := HJ.out (i + 1) (by omega)
      have hsum : (joined f i).size + (f i).size ≤ 10000000000000000 := by omega
      go_wp2_with fail
      refine (HD.out.val w3 _ q _ HH3.out.ok (by rw [bytesOf_length]; omega) (bytesOf_lt _) HH3.out.st).mono ?_
      rintro e w4 ⟨rfl, h4, hB⟩
      have HH4 : Hid (Held OK St w q (bytesOf (joined f (i + 1))) w4) := ⟨HD.out.ok _ _ HH3.out.ok hB, h4, HH3.out.below.trans hB⟩
      clear h4 hB
      go_wp2_with fail
      refine (refOf_spec (joined f (i + 1)) (by omega) w4).mono ?_
      rintro e w5 ⟨rfl, hB⟩
      have HH5 : Hid (Held OK St w q (bytesOf (joined f (i + 1))) w5) := ⟨HD.out.ok _ _ HH4.out.ok (hB.mono HH4.out.below.size), HD.out.keep _ _ _ _ _ HH4.out.st hB, HH4.out.below.trans (hB.mono HH4.out.below.size)⟩
      clear hB
      have kl := HD.out.len w5 _ q _ HH5.out.ok (by rw [bytesOf_length]; omega) HH5.out.st
      rw [bytesOf_length] at kl
      go_wp2_with fail
      refine kl.mono ?_
      rintro e w6 ⟨rfl, h6, hB⟩
      have HH6 : Hid (Held OK St w q (bytesOf (joined f (i + 1))) w6) := ⟨HD.out.ok _ _ HH5.out.ok hB, h6, HH5.out.below.trans hB⟩
      clear h6 hB kl
      go_wp2
      go_roundw
      case rel => exact ⟨i + 1, by omega, by omega, rfl, by go_num, HH6.out⟩
      case measure => simp [intOf]; omega
    · by_cases hl : i < len
      · have h50 : ¬ i < 50 := fun h => hgo ⟨hl, h⟩
        clear hgo
        go_wp2_with fail
        refine (HD.out.val wr _ q _ HH.out.ok (by rw [bytesOf_length]; omega) (bytesOf_lt _) HH.out.st).mono ?_
        rintro e w3 ⟨rfl, h3, hB⟩
        have HH3 : Hid (Held OK St w q (bytesOf (joined f i)) w3) := ⟨HD.out.ok _ _ HH.out.ok hB, h3, HH.out.below.trans hB⟩
        clear h3 hB
        go_wp2_with fail
        refine (HD.out.of w3 (joined f i) HH3.out.ok (by omega)).mono ?_
        rintro e w4 ⟨rfl, hB⟩
        have B4 : Hid (Below w.heap.size w w4) := HH3.out.below.trans (hB.mono HH3.out.below.size)
        have O4 : Hid (OK w4) := HD.out.ok _ _ HH3.out.ok (hB.mono HH3.out.below.size)
        clear hB
        go_wp2_with fail
        refine (awake_of OK HD.out.hex w.heap.size HD.out.ok w4 O4.out B4.out.size).mono ?_
        rintro e w5 ⟨rfl, hB⟩
        have B5 : Hid (Below w.heap.size w w5) := B4.out.trans (hB.mono B4.out.size)
        clear hB
        go_wp2
        go_ret
        exact ⟨rfl, B5.out⟩
      · clear hgo
        go_wp2_with fail
        refine (HD.out.val wr _ q _ HH.out.ok (by rw [bytesOf_length]; omega) (bytesOf_lt _) HH.out.st).mono ?_
        rintro e w3 ⟨rfl, h3, hB⟩
        have HH3 : Hid (Held OK St w q (bytesOf (joined f i)) w3) := ⟨HD.out.ok _ _ HH.out.ok hB, h3, HH.out.below.trans hB⟩
        clear h3 hB
        go_wp2_with fail
        refine (HD.out.of w3 (joined f i) HH3.out.ok (by omega)).mono ?_
        rintro e w4 ⟨rfl, hB⟩
        have B4 : Hid (Below w.heap.size w w4) := HH3.out.below.trans (hB.mono HH3.out.below.size)
        have O4 : Hid (OK w4) := HD.out.ok _ _ HH3.out.ok (hB.mono HH3.out.below.size)
        clear hB
        go_wp2_with fail
        refine (awake_of OK HD.out.hex w.heap.size HD.out.ok w4 O4.out B4.out.size).mono ?_
        rintro e w5 ⟨rfl, hB⟩
        have B5 : Hid (Below w.heap.size w w5) := B4.out.trans (hB.mono B4.out.size)
        clear hB
        go_wp2
        go_ret
        exact ⟨rfl, B5.out⟩

end Go.Proofs.YtkbppdihemoijaaDoor
