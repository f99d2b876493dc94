/- Own text: the walk of cut (aiff). the walk of Lay. the walks of the draft's lay and close, and of the deferred call (aiff). -/
import Derived.Test.YtaepgjheknkojaaGreatQ7look
import Derived.Test.YtaepgjheknkojaaGreatG32x
import Derived.Test.YtaepgjheknkojaaGreatG25x
import Derived.Defers
import Derived.Deep.RegionHeld3
namespace Go.Proofs.YtaepgjheknkojaaGreat
open Go.RowKit
set_option linter.unusedSimpArgs false
set_option linter.unusedVariables false

/-- All that was there is as it was, but for a row of chunks. -/
structure Aside (ao : Option Addr) (w w' : World) : Prop where
  os : w'.os = w.os
  tape : w'.tape = w.tape
  output : w'.output = w.output
  size : w.heap.size ≤ w'.heap.size
  block : ∀ k, k < w.heap.size → (∀ g off, ao = some ⟨g, off, none⟩ → k ≠ g) → w'.heap[k]? = w.heap[k]?
theorem Aside.of {ao : Option Addr} {w w' : World} (h : Below w.heap.size w w') : Aside ao w w' := ⟨h.os, h.tape, h.output, h.size, fun k hk _ => h.block k hk⟩
theorem Aside.next {ao : Option Addr} {w w1 w2 : World} (h : Aside ao w w1) (hB : Below w1.heap.size w1 w2) : Aside ao w w2 :=
  ⟨hB.os.trans h.os, hB.tape.trans h.tape, hB.output.trans h.output, Nat.le_trans h.size hB.size, fun k hk hn => (hB.block k (Nat.lt_of_lt_of_le hk h.size)).trans (h.block k hk hn)⟩
theorem Aside.set {g : Nat} {w w1 : World} (h : Aside (some ⟨g, 0, none⟩) w w1) (j : Nat) (v : Value) : Aside (some ⟨g, 0, none⟩) w (w1.setCell ⟨g, j, none⟩ v) :=
  ⟨h.os, h.tape, h.output, by simpa [World.setCell] using h.size, fun k hk hn => (Below.heap_setCell _ _ _ _ (hn g 0 rfl)).trans (h.block k hk hn)⟩
theorem Box.aside {b : Nat} {d : Array Value} {T : TypeId} {ao : Option Addr} {w w' : World} (h : Box b d T w) (ha : Aside ao w w') (hn : ∀ g off, ao = some ⟨g, off, none⟩ → b ≠ g) : Box b d T w' := (ha.block b h.lt hn).trans h
theorem Aside.below {ao : Option Addr} {w0 w w' : World} (h : Aside ao w w') (hB : Below w0.heap.size w0 w) (hn : FreshC w0.heap.size ao) : Below w0.heap.size w0 w' :=
  ⟨h.os.trans hB.os, h.tape.trans hB.tape, h.output.trans hB.output, Nat.le_trans hB.size h.size, fun k hk => (h.block k (Nat.lt_of_lt_of_le hk hB.size) fun g off e => by have := hn g off e; omega).trans (hB.block k hk)⟩
/-- What cut answers. -/
def GivesC (w : World) (B : Nat) (ao : Option Addr) (cap : Nat) (l : List Chk) (x : Com) (i : Int) (e : Ending) (w' : World) : Prop := ∃ d, e = .returned (.tuple #[.string d, .int .i64 (cut7E l x i)]) ∧ Aside ao w w' ∧ (cut7E l x i = 0 → d = smpS l i ∧ OwnC B ao cap (cut7L l i) w')
theorem st_range (b : ByteArray) : 8 ≤ stN b ∧ stN b < 4294967304 := by
  have := beI_range b 0 4 (by omega)
  unfold stN
  omega
set_option maxRecDepth 20000 in
set_option maxHeartbeats 3200000 in
theorem cut7_none (x : Com) (l : List Chk) (B : Nat) (ao : Option Addr) (cap : Nat) (w : World) (hx : GoodX x) (ho : OwnC B ao cap l w) :
    Calls Tryz.prog 44 #[.agg (filC x (-1)), .slice ao l.length cap] w (GivesC w B ao cap l x (-1)) := by
  have HB0 : Hid (Below w.heap.size w (w.alloc (.cells (filC x (-1)) 70))) := belA _ _
  have HO : Hid (OwnC B ao cap l w) := ho
  have HSM : Hid (smpS l (-1) = ⟨#[]⟩) := rfl
  have HCL : Hid (cut7L l (-1) = l) := rfl
  have HCE : Hid (cut7E l x (-1) = if ((0 : Nat) : Int) != wantN x then 2 else 0) := rfl
  have ks := size7_spec x hx (w.alloc (.cells (filC x (-1)) 70))
  generalize wantN x = WN at *
  clear hx ho
  go_enter Tryz.func44, Tryz.ntmps44
  go_wp2_with fail
  refine ks.mono ?_
  rintro e w2 ⟨rfl, hB2⟩
  have HB2 : Hid (Below w.heap.size w w2) := below_on HB0.out hB2
  clear ks hB2 HB0
  cases hw : (0 : Int) != WN
  · have HE : Hid (cut7E l x (-1) = 0) := HCE.out.trans (by rw [show (((0 : Nat) : Int) != WN) = false from hw]; rfl)
    go_wp2_with fail
    go_ret2
    exact ⟨⟨#[]⟩, by rw [HE.out]; rfl, Aside.of HB2.out, fun _ => ⟨HSM.out.symm, by rw [HCL.out]; exact HO.out.next HB2.out⟩⟩
  · have HE : Hid (cut7E l x (-1) = 2) := HCE.out.trans (by rw [show (((0 : Nat) : Int) != WN) = true from hw]; rfl)
    go_wp2_with fail
    go_ret2
    exact ⟨⟨#[]⟩, by rw [HE.out]; rfl, Aside.of HB2.out, fun q => absurd (HE.out.symm.trans q) (by decide)⟩
set_option maxRecDepth 20000 in
set_option maxHeartbeats 3200000 in
theorem cut7_some (x : Com) (l : List Chk) (i : Nat) (c : Chk) (hc : l[i]? = some c) (hcb : c.body.size ≤ 140737488351232) (B : Nat) (ao : Option Addr) (cap : Nat) (w : World) (hx : GoodX x) (ho : OwnC B ao cap l w) :
    Calls Tryz.prog 44 #[.agg (filC x (i : Int)), .slice ao l.length cap] w (GivesC w B ao cap l x (i : Int)) := by
  have hil := (List.getElem?_eq_some_iff.1 hc).1
  obtain ⟨g, rfl, hBg, hgw, x0, x1, x2, hfz⟩ := ho.spot i c hc
  have hat := atC_get l i c hc
  have HCI : Hid (l[i]? = some c) := hc
  have hi1 : ((i : Int) != -1) = true := by
    rw [bne_iff_ne]
    omega
  have hin : ¬ ((i : Int) = -1) := by omega
  have HCE : Hid (cut7E l x (i : Int) = if stB c.body then (if (((smpS l (i : Int)).size : Nat) : Int) != wantN x then 2 else 0) else 2) := by
    show _ = _
    unfold cut7E
    rw [hat, hi1]
    cases stB c.body <;> rfl
  have HSM : Hid (smpS l (i : Int) = c.body.extract (stN c.body).toNat c.body.size) := by
    show _ = _
    unfold smpS
    rw [if_neg hin, hat]
  have HCL : Hid (cut7L l (i : Int) = l.set i (cut7C c)) := by
    show _ = _
    unfold cut7L
    rw [if_neg hin, hat, Int.toNat_natCast]
  have HB0 : Hid (Box w.heap.size (filC x (i : Int)) 70 (w.alloc (.cells (filC x (i : Int)) 70)) ∧ Below w.heap.size w (w.alloc (.cells (filC x (i : Int)) 70))) := ⟨Box.new _ _ _, belA _ _⟩
  have HO : Hid (OwnC B (some ⟨g, 0, none⟩) cap l w) := ho
  have kst := startOf_spec c.body
  have y1 : (w.alloc (.cells (filC x (i : Int)) 70)).cell? ⟨g, i * 3 + 1, none⟩ = some (.string c.body) := (World.cell?_of_block (w := w) (HB0.out.2.block g hgw)).trans x1
  have hz1 := hfz (i * 3 + 1)
  clear hin
  cases hst : stB c.body
  · have HE : Hid (cut7E l x (i : Int) = 2) := HCE.out.trans (by rw [hst]; rfl)
    rw [hst] at kst
    clear HCE ho hfz hat
    generalize stI c.body = SI at *
    go_enter Tryz.func44, Tryz.ntmps44
    go_wp2_with fail
    refine (kst _).mono ?_
    rintro e w2 ⟨rfl, rfl⟩
    clear kst
    go_wp2_with fail
    go_ret2
    exact ⟨⟨#[]⟩, by rw [HE.out]; rfl, Aside.of HB0.out.2, fun q => absurd (HE.out.symm.trans q) (by decide)⟩
  · have hsr := st_range c.body
    obtain ⟨hs1, hs2⟩ := Bool.and_eq_true_iff.1 hst
    have hs1 := of_decide_eq_true hs1
    have hs2 := of_decide_eq_true hs2
    have hsi : stI c.body = stN c.body := if_pos hs1
    obtain ⟨n, hn⟩ : ∃ n : Nat, stN c.body = (n : Int) := ⟨(stN c.body).toNat, by omega⟩
    have hnn : (stN c.body).toNat = n := by omega
    have hnl : n ≤ c.body.size := by omega
    rw [hst] at HCE
    simp only [if_true] at HCE
    rw [hst, hsi, hn] at kst
    rw [hnn] at HSM
    have HCC : Hid (cut7C c = ⟨c.id, c.body.extract 0 n, c.pad⟩) := by
      show _ = _
      unfold cut7C
      rw [hnn]
    have sl1 : ∀ wx, (Instr.slice 9 (.string c.body) (some (.int .i64 (n : Int))) none none).run Tryz.prog wx = .ok (.string (c.body.extract n c.body.size)) wx := fun wx => slice_from c.body n hnl wx
    have sl2 : ∀ wx, (Instr.slice 9 (.string c.body) none (some (.int .i64 (n : Int))) none).run Tryz.prog wx = .ok (.string (c.body.extract 0 n)) wx := fun wx => slice_upto c.body n hnl wx
    have kc := clone_spec (c.body.extract 0 n)
    have hcz : (c.body.extract 0 n).size ≤ 281474976710656 := by rw [ByteArray.size_extract]; omega
    have KZ : Hid (∀ wx, Calls Tryz.prog 77 #[sndV7 x] wx fun e w' => e = .returned (.int .i64 (wantN x)) ∧ Below wx.heap.size wx w') := fun wx => size7_spec x hx wx
    have hc2 := hc
    have HSET : Hid (∀ wx, OwnC B (some ⟨g, 0, none⟩) cap l wx → OwnC B (some ⟨g, 0, none⟩) cap (cut7L l (i : Int)) (wx.setCell ⟨g, i * 3 + 1, none⟩ (.string (c.body.extract 0 n)))) := fun wx hw => by
      rw [HCL.out, HCC.out]
      exact hw.set i c hc2 _
    have HSZ : Hid ((smpS l (i : Int)).size = (c.body.extract n c.body.size).size) := by show _ = _; rw [HSM.out]
    clear hst hs1 hs2 hsi hn hnn hsr ho hat HCC HCL hx hc hc2
    generalize wantN x = WN at *
    generalize c.body.extract n c.body.size = SMP at *
    generalize c.body.extract 0 n = CB at *
    go_enter Tryz.func44, Tryz.ntmps44
    go_wp2_with fail
    refine (kst _).mono ?_
    rintro e w2 ⟨rfl, rfl⟩
    clear kst
    go_wp2_with fail
    refine (kc _ hcz).mono ?_
    rintro e w3 ⟨rfl, hB3⟩
    have H3 : Hid (Box w.heap.size (filC x (i : Int)) 70 w3 ∧ Below w.heap.size w w3 ∧ OwnC B (some ⟨g, 0, none⟩) cap l w3) := ⟨HB0.out.1.next hB3, below_on HB0.out.2 hB3, (HO.out.next HB0.out.2).next hB3⟩
    obtain ⟨g', hg', _, _, _, x3, _, hz3⟩ : ∃ g', (some (⟨g, 0, none⟩ : Addr)) = some ⟨g', 0, none⟩ ∧ B ≤ g' ∧ g' < w3.heap.size ∧ w3.cell? ⟨g', i * 3, none⟩ = some (.string c.id) ∧ w3.cell? ⟨g', i * 3 + 1, none⟩ = some (.string c.body) ∧ w3.cell? ⟨g', i * 3 + 2, none⟩ = some (.int .i64 c.pad) ∧ (∀ j, w3.frozen? ⟨g', j, none⟩ = false) := H3.out.2.2.spot i c HCI.out
    cases hg'
    have z3 := hz3 (i * 3 + 1)
    have gne : ¬ (w.heap.size = g) := by omega
    have H4 : Hid (Box w.heap.size (filC x (i : Int)) 70 (w3.setCell ⟨g, i * 3 + 1, none⟩ (.string CB)) ∧ Aside (some ⟨g, 0, none⟩) w (w3.setCell ⟨g, i * 3 + 1, none⟩ (.string CB)) ∧ OwnC B (some ⟨g, 0, none⟩) cap (cut7L l (i : Int)) (w3.setCell ⟨g, i * 3 + 1, none⟩ (.string CB))) := ⟨H3.out.1.other (a := ⟨g, i * 3 + 1, none⟩) gne _, (Aside.of H3.out.2.1).set _ _, HSET.out w3 H3.out.2.2⟩
    clear kc hB3 HB0 hz3 HSET
    have f0 := H3.out.1.c 0 _ rfl
    have f1 := H3.out.1.c 1 _ rfl
    have f2 := H3.out.1.c 2 _ rfl
    have f3 := H3.out.1.c 3 _ rfl
    have f4 := H3.out.1.c 4 _ rfl
    clear hfz H3
    go_wp2_with fail
    refine (KZ.out _).mono ?_
    rintro e w5 ⟨rfl, hB5⟩
    have H5 : Hid (Aside (some ⟨g, 0, none⟩) w w5 ∧ OwnC B (some ⟨g, 0, none⟩) cap (cut7L l (i : Int)) w5) := ⟨H4.out.2.1.next hB5, H4.out.2.2.next hB5⟩
    clear KZ hB5 H4 f0 f1 f2 f3 f4 x3 z3
    cases hw : (SMP.size : Int) != WN
    · have HE : Hid (cut7E l x (i : Int) = 0) := HCE.out.trans (by rw [HSZ.out, hw]; rfl)
      go_wp2_with fail
      go_ret2
      exact ⟨SMP, by rw [HE.out]; rfl, H5.out.1, fun _ => ⟨HSM.out.symm, H5.out.2⟩⟩
    · have HE : Hid (cut7E l x (i : Int) = 2) := HCE.out.trans (by rw [HSZ.out, hw]; rfl)
      go_wp2_with fail
      go_ret2
      exact ⟨⟨#[]⟩, by rw [HE.out]; rfl, H5.out.1, fun q => absurd (HE.out.symm.trans q) (by decide)⟩

end Go.Proofs.YtaepgjheknkojaaGreat

namespace Go.Proofs.YtaepgjheknkojaaGreat
open Go.RowKit
set_option linter.unusedSimpArgs false
set_option linter.unusedVariables false

set_option maxRecDepth 20000 in
set_option maxHeartbeats 1600000 in
theorem Lay_spec (l : List Chk) (big : Bool) (ao : Option Addr) (cap : Nat) (w : World) (hl : ChksAt w ao l) (hf : FairL l) (hll : l.length ≤ 9000000000000000) (hsz : sizeL l ≤ 140737488355328) :
    Calls Tryz.prog 67 #[.slice ao l.length cap, .bool big] w fun e w' => e = .returned (.tuple #[.string (layT l big), .int .i64 (layE l)]) ∧ Below w.heap.size w w' := by
  have km := mayStand_spec l ao cap w hl hf hll
  have HL : Hid (ChksAt w ao l ∧ FairL l ∧ sizeL l ≤ 140737488355328) := ⟨hl, hf, hsz⟩
  cases hst : standB l
  · obtain ⟨e1, e2⟩ := stand_not l big hst
    rw [hst] at km
    rw [e1, e2]
    clear hl hf hsz hst e1 e2
    go_enter Tryz.func67, Tryz.ntmps67
    go_wp2_with fail
    refine km.mono ?_
    rintro e w2 ⟨rfl, hB2⟩
    have HB : Hid (Below w.heap.size w w2) := hB2
    clear km hB2
    go_wp2_with fail
    go_ret2
    exact ⟨rfl, HB.out⟩
  · have e1 := stand_lay l hst
    have HT : Hid (textOf (bytesOf ⟨#[]⟩ ++ layZ (zB big) l) = layT l big) := lay_text l big hst
    have HST : Hid (standB l = true) := hst
    rw [hst] at km
    rw [e1]
    clear hl hf hsz hst e1
    generalize layT l big = X at *
    go_enter Tryz.func67, Tryz.ntmps67
    go_wp2_with fail
    refine km.mono ?_
    rintro e w2 ⟨rfl, hB2⟩
    have HB : Hid (Below w.heap.size w w2) := hB2
    have kl := lay_spec (zB big) ⟨#[]⟩ l ao cap w2 (HL.out.1.below hB2) HL.out.2.1 HST.out (by have := HL.out.2.2; show 0 + sizeL l ≤ _; omega)
    rw [HT.out] at kl
    clear km hB2 HT HST
    go_wp2_with fail
    refine kl.mono ?_
    rintro e w3 ⟨rfl, hB3⟩
    have HB3 : Hid (Below w.heap.size w w3) := HB.out.trans (hB3.mono HB.out.size)
    clear kl hB3 HB
    go_wp2_with fail
    go_ret2
    exact ⟨rfl, HB3.out⟩

end Go.Proofs.YtaepgjheknkojaaGreat

namespace Go.Proofs.YtaepgjheknkojaaGreat
open Go.RowKit
set_option linter.unusedSimpArgs false
set_option linter.unusedVariables false

abbrev dftC (f : ByteArray) (b : Bool) (s : ByteArray) : Array Value := #[.string f, .bool b, .string s]
def dftL (f : ByteArray) (L : List Chk) : Array Value := if roomB L then dftC f (layE L == 0) (layT L true) else dftC f false ⟨#[]⟩
theorem sizeL_room (L : List Chk) (h : roomB L = true) : sizeL L ≤ 9 * L.length + 67108864 := by
  have h1 : ∀ L : List Chk, sizeL L ≤ 9 * L.length + bodL L := by
    intro L
    induction L with
    | nil => exact Nat.zero_le _
    | cons c t ih =>
      have e : sizeL (c :: t) = sizeC c + sizeL t := by unfold sizeL; simp
      have e2 : bodL (c :: t) = c.body.size + bodL t := by unfold bodL; simp
      have : sizeC c ≤ 9 + c.body.size := by unfold sizeC; split <;> omega
      rw [e, e2, List.length_cons]
      omega
  have := h1 L
  have h2 := of_decide_eq_true h
  omega
set_option maxRecDepth 20000 in
set_option maxHeartbeats 3200000 in
theorem lay7_spec (b : Nat) (f : ByteArray) (L : List Chk) (ao : Option Addr) (cap : Nat) (w : World) (hb : Box b (dftC f false ⟨#[]⟩) 65 w) (hl : ChksAt w ao L) (hf : FairL L) (hll : L.length ≤ 3500000000000) :
    Calls Tryz.prog 33 #[.pointer (some ⟨b, 0, none⟩), .slice ao L.length cap] w fun e w' => e = .returned (.tuple #[]) ∧ Aside (some ⟨b, 0, none⟩) w w' ∧ Box b (dftL f L) 65 w' := by
  have kr := hasRoom_spec L ao cap w hl (by omega) fun c hc => by have := (hf c hc).2; omega
  have HL : Hid (ChksAt w ao L ∧ FairL L) := ⟨hl, hf⟩
  have HB0 : Hid (Box b (dftC f false ⟨#[]⟩) 65 w) := hb
  clear hl hf hb
  cases hr : roomB L
  · have HD : Hid (dftL f L = (dftC f false ⟨#[]⟩)) := by show _ = _; unfold dftL; rw [hr]; rfl
    rw [hr] at kr
    go_enter Tryz.func33, Tryz.ntmps33
    go_wp2_with fail
    refine kr.mono ?_
    rintro e w2 ⟨rfl, hB2⟩
    have H2 : Hid (Box b (dftC f false ⟨#[]⟩) 65 w2 ∧ Below w.heap.size w w2) := ⟨HB0.out.next hB2, hB2⟩
    clear kr hB2
    go_wp2_with fail
    refine bodyPost_ret (results_none rfl _ _ _) rfl ?_
    exact ⟨rfl, Aside.of H2.out.2, by rw [HD.out]; exact H2.out.1⟩
  · have HD : Hid (dftL f L = dftC f (layE L == 0) (layT L true)) := by show _ = _; unfold dftL; rw [hr]; rfl
    have hsz := sizeL_room L hr
    rw [hr] at kr
    clear hr
    go_enter Tryz.func33, Tryz.ntmps33
    go_wp2_with fail
    refine kr.mono ?_
    rintro e w2 ⟨rfl, hB2⟩
    have kl := Lay_spec L true ao cap w2 (HL.out.1.below hB2) HL.out.2 (by omega) (by omega)
    have H2 : Hid (Box b (dftC f false ⟨#[]⟩) 65 w2 ∧ Below w.heap.size w w2) := ⟨HB0.out.next hB2, hB2⟩
    clear kr hB2 hsz HL
    generalize layT L true = LT at *
    generalize layE L = LE at *
    go_wp2_with fail
    refine kl.mono ?_
    rintro e w3 ⟨rfl, hB3⟩
    have H3 : Hid (Box b (dftC f false ⟨#[]⟩) 65 w3 ∧ Below w.heap.size w w3) := ⟨H2.out.1.next hB3, below_on H2.out.2 hB3⟩
    clear kl hB3 H2
    have r1 := H3.out.1.c 1 _ rfl
    have r2 := H3.out.1.c 2 _ rfl
    have z1 := H3.out.1.z 1
    have z2 := H3.out.1.z 2
    have H4 : Hid (Box b (dftC f (LE == 0) LT) 65 ((w3.setCell ⟨b, 2, none⟩ (.string LT)).setCell ⟨b, 1, none⟩ (.bool (LE == 0))) ∧ Aside (some ⟨b, 0, none⟩) w ((w3.setCell ⟨b, 2, none⟩ (.string LT)).setCell ⟨b, 1, none⟩ (.bool (LE == 0)))) := ⟨(H3.out.1.set 2 (.string LT)).set 1 (.bool (LE == 0)), ((Aside.of H3.out.2).set 2 _).set 1 _⟩
    go_wp2_with fail
    first
      | go_end0
      | refine bodyPost_ret (results_none rfl _ _ _) rfl ?_
    exact ⟨rfl, H4.out.2, by rw [HD.out]; exact H4.out.1⟩
def clB (b : Bool) (s : ByteArray) : Bool := b && !decide (67108864 < 12 + (s.size : Int))
def clE (b : Bool) (s : ByteArray) : Int := if clB b s then 0 else 60
def clT (f : ByteArray) (b : Bool) (s : ByteArray) : ByteArray := if clB b s then headT7 f (12 + (s.size : Int)) ++ s else ⟨#[]⟩
theorem headT7_size (f : ByteArray) (n : Int) : (headT7 f n).size ≤ 12 + f.size := by
  unfold headT7
  rw [ByteArray.size_append, ByteArray.size_append]
  have := beT_size (n - 8) 4
  have e : formT.size = 4 := rfl
  omega

set_option maxRecDepth 20000 in
set_option maxHeartbeats 3200000 in
theorem close7_no (b : Nat) (f : ByteArray) (s : ByteArray) (w : World) (hb : Box b (dftC f false s) 65 w) (hs : s.size ≤ 140737488355328) :
    Calls Tryz.prog 27 #[.pointer (some ⟨b, 0, none⟩)] w fun e w' => e = .returned (.tuple #[.string ⟨#[]⟩, .int .i64 60]) ∧ Below w.heap.size w w' := by
  have r0 := hb.c 0 _ rfl
  have r1 := hb.c 1 _ rfl
  have r2 := hb.c 2 _ rfl
  clear hb
  go_enter Tryz.func27, Tryz.ntmps27
  go_wp2_with fail
  go_ret2
  exact ⟨rfl, Below.refl _ _⟩
set_option maxRecDepth 20000 in
set_option maxHeartbeats 3200000 in
theorem close7_large (b : Nat) (f : ByteArray) (s : ByteArray) (w : World) (hb : Box b (dftC f true s) 65 w) (hs : s.size ≤ 140737488355328) (h : 67108864 < 12 + (s.size : Int)) :
    Calls Tryz.prog 27 #[.pointer (some ⟨b, 0, none⟩)] w fun e w' => e = .returned (.tuple #[.string ⟨#[]⟩, .int .i64 60]) ∧ Below w.heap.size w w' := by
  have r0 := hb.c 0 _ rfl
  have r1 := hb.c 1 _ rfl
  have r2 := hb.c 2 _ rfl
  have hd : decide ((67108864 : Int) < 12 + (s.size : Int)) = true := decide_eq_true h
  clear hb
  go_enter Tryz.func27, Tryz.ntmps27
  go_wp2_with fail
  go_ret2
  exact ⟨rfl, Below.refl _ _⟩
set_option maxRecDepth 20000 in
set_option maxHeartbeats 3200000 in
theorem close7_yes (b : Nat) (f : ByteArray) (s : ByteArray) (w : World) (hb : Box b (dftC f true s) 65 w) (hf : f.size ≤ 140737488355328) (h : ¬ (67108864 < 12 + (s.size : Int))) :
    Calls Tryz.prog 27 #[.pointer (some ⟨b, 0, none⟩)] w fun e w' => e = .returned (.tuple #[.string (headT7 f (12 + (s.size : Int)) ++ s), .int .i64 0]) ∧ Below w.heap.size w w' := by
  have r0 := hb.c 0 _ rfl
  have r1 := hb.c 1 _ rfl
  have r2 := hb.c 2 _ rfl
  have HBX : Hid (Box b (dftC f true s) 65 w) := hb
  have hd : decide ((67108864 : Int) < 12 + (s.size : Int)) = false := decide_eq_false h
  have hle : s.size ≤ 67108852 := by omega
  have KH : Hid (∀ wx, Hid (Box b (dftC f true s) 65 wx ∧ Below w.heap.size w wx) → Calls Tryz.prog 53 #[.string f, .int .i64 (12 + (s.size : Int))] wx fun e w' => e = .returned (.string (headT7 f (12 + (s.size : Int)))) ∧ Hid (Box b (dftC f true s) 65 w' ∧ Below w.heap.size w w')) := fun wx hx => (headOf_spec f (12 + (s.size : Int)) hf (by omega) (by omega) wx).mono fun e w' q => ⟨q.1, hx.out.1.next q.2, below_on hx.out.2 q.2⟩
  have hsz : ¬ (9223372036854775807 < (headT7 f (12 + (s.size : Int))).size + s.size) := by
    have := headT7_size f (12 + (s.size : Int))
    omega
  have HSS : Hid (∀ wx, (fun wx => Box b (dftC f true s) 65 wx) wx → wx.cell? ⟨b, 0, none⟩ = some (.string f) ∧ wx.cell? ⟨b, 1, none⟩ = some (.bool true) ∧ wx.cell? ⟨b, 2, none⟩ = some (.string s)) := fun wx hx => ⟨hx.c 0 _ rfl, hx.c 1 _ rfl, hx.c 2 _ rfl⟩
  have HD : Hid (Box b (dftC f true s) 65 w.drew ∧ Below w.heap.size w w.drew) := ⟨hb.next (belD _), belD _⟩
  generalize headT7 f (12 + (s.size : Int)) = HT at *
  clear hb h hf
  go_enter Tryz.func27, Tryz.ntmps27
  go_wp2_with fail
  clear r0 r1 r2
  refine wp_region_held_drew (S := fun wx => Box b (dftC f true s) 65 wx) (by kernel_rfl) HD.out.1 (fun hS => ?_)
  refine wpAnyH_take (i := 0) (v := .pointer (some ⟨b, 0, none⟩)) rfl (by kernel_rfl) (by kernel_rfl) (by kernel_rfl) (fun _ _ _ h => h) (Or.inl ⟨by rfl, fun w hSw => by obtain ⟨s0, s1, s2⟩ := HSS.out _ hSw; go_simp⟩) hS ?_
  simp only [Act.put, List.getElem_toArray, List.getElem_cons_succ, List.getElem_cons_zero, List.setIfInBounds_toArray, List.set_cons_zero, List.set_cons_succ]
  refine wpAnyH_take (i := 1) (v := .pointer (some ⟨b, 0, none⟩)) rfl (by kernel_rfl) (by kernel_rfl) (by kernel_rfl) (fun _ _ _ h => h) (Or.inl ⟨by rfl, fun w hSw => by obtain ⟨s0, s1, s2⟩ := HSS.out _ hSw; go_simp⟩) hS ?_
  simp only [Act.put, List.getElem_toArray, List.getElem_cons_succ, List.getElem_cons_zero, List.setIfInBounds_toArray, List.set_cons_zero, List.set_cons_succ]
  refine wpAnyH_take (i := 2) (v := .pointer (some ⟨b, 0, none⟩)) rfl (by kernel_rfl) (by kernel_rfl) (by kernel_rfl) (fun _ _ _ h => h) (Or.inl ⟨by rfl, fun w hSw => by obtain ⟨s0, s1, s2⟩ := HSS.out _ hSw; go_simp⟩) hS ?_
  simp only [Act.put, List.getElem_toArray, List.getElem_cons_succ, List.getElem_cons_zero, List.setIfInBounds_toArray, List.set_cons_zero, List.set_cons_succ]
  refine wpAnyH_take (i := 3) (v := .string f) rfl (by kernel_rfl) (by kernel_rfl) (by kernel_rfl) (fun _ _ _ h => h) (Or.inl ⟨by rfl, fun w hSw => by obtain ⟨s0, s1, s2⟩ := HSS.out _ hSw; go_simp⟩) hS ?_
  simp only [Act.put, List.getElem_toArray, List.getElem_cons_succ, List.getElem_cons_zero, List.setIfInBounds_toArray, List.set_cons_zero, List.set_cons_succ]
  refine wpAnyH_take (i := 4) (v := .int .i64 (12 + (s.size : Int))) rfl (by kernel_rfl) (by kernel_rfl) (by kernel_rfl) (fun _ _ _ h => h) (Or.inl ⟨by rfl, fun w hSw => by obtain ⟨s0, s1, s2⟩ := HSS.out _ hSw; go_simp⟩) hS ?_
  simp only [Act.put, List.getElem_toArray, List.getElem_cons_succ, List.getElem_cons_zero, List.setIfInBounds_toArray, List.set_cons_zero, List.set_cons_succ]
  refine wpAnyH_take (i := 6) (v := .pointer (some ⟨b, 0, none⟩)) rfl (by kernel_rfl) (by kernel_rfl) (by kernel_rfl) (fun _ _ _ h => h) (Or.inl ⟨by rfl, fun w hSw => by obtain ⟨s0, s1, s2⟩ := HSS.out _ hSw; go_simp⟩) hS ?_
  simp only [Act.put, List.getElem_toArray, List.getElem_cons_succ, List.getElem_cons_zero, List.setIfInBounds_toArray, List.set_cons_zero, List.set_cons_succ]
  refine wpAnyH_take (i := 7) (v := .pointer (some ⟨b, 0, none⟩)) rfl (by kernel_rfl) (by kernel_rfl) (by kernel_rfl) (fun _ _ _ h => h) (Or.inl ⟨by rfl, fun w hSw => by obtain ⟨s0, s1, s2⟩ := HSS.out _ hSw; go_simp⟩) hS ?_
  simp only [Act.put, List.getElem_toArray, List.getElem_cons_succ, List.getElem_cons_zero, List.setIfInBounds_toArray, List.set_cons_zero, List.set_cons_succ]
  refine wpAnyH_take (i := 8) (v := .pointer (some ⟨b, 2, none⟩)) rfl (by kernel_rfl) (by kernel_rfl) (by kernel_rfl) (fun _ _ _ h => h) (Or.inl ⟨by rfl, fun w hSw => by obtain ⟨s0, s1, s2⟩ := HSS.out _ hSw; go_simp⟩) hS ?_
  simp only [Act.put, List.getElem_toArray, List.getElem_cons_succ, List.getElem_cons_zero, List.setIfInBounds_toArray, List.set_cons_zero, List.set_cons_succ]
  refine wpAnyH_take (i := 9) (v := .string s) rfl (by kernel_rfl) (by kernel_rfl) (by kernel_rfl) (fun _ _ _ h => h) (Or.inl ⟨by rfl, fun w hSw => by obtain ⟨s0, s1, s2⟩ := HSS.out _ hSw; go_simp⟩) hS ?_
  simp only [Act.put, List.getElem_toArray, List.getElem_cons_succ, List.getElem_cons_zero, List.setIfInBounds_toArray, List.set_cons_zero, List.set_cons_succ]
  refine wpAnyH_ready (rs := [5]) (by kernel_rfl) (by simp) ?_
  refine AllReadyH.cons rfl (fun K hK => ?_) AllReadyH.nil
  go_simp
  refine (KH.out _ HD).mono ?_
  rintro e w5 ⟨rfl, h5⟩
  refine hK.out _ _ h5.out.1 (fun hS5 => ?_)
  clear hK K
  refine wpAnyH_take (i := 10) (v := .string (HT ++ s)) rfl (by kernel_rfl) (by kernel_rfl) (by kernel_rfl) (fun _ _ _ h => h) (Or.inl ⟨by rfl, fun w hSw => by obtain ⟨s0, s1, s2⟩ := HSS.out _ hSw; go_simp⟩) hS5 ?_
  simp only [Act.put, List.getElem_toArray, List.getElem_cons_succ, List.getElem_cons_zero, List.setIfInBounds_toArray, List.set_cons_zero, List.set_cons_succ]
  refine wpAnyH_take (i := 11) (v := .string (HT ++ s)) rfl (by kernel_rfl) (by kernel_rfl) (by kernel_rfl) (fun _ _ _ h => h) (Or.inl ⟨by rfl, fun w hSw => by obtain ⟨s0, s1, s2⟩ := HSS.out _ hSw; go_simp⟩) hS5 ?_
  simp only [Act.put, List.getElem_toArray, List.getElem_cons_succ, List.getElem_cons_zero, List.setIfInBounds_toArray, List.set_cons_zero, List.set_cons_succ]
  refine wpAnyH_take (i := 12) (v := .int .i64 0) rfl (by kernel_rfl) (by kernel_rfl) (by kernel_rfl) (fun _ _ _ h => h) (Or.inl ⟨by rfl, fun w hSw => by obtain ⟨s0, s1, s2⟩ := HSS.out _ hSw; go_simp⟩) hS5 ?_
  simp only [Act.put, List.getElem_toArray, List.getElem_cons_succ, List.getElem_cons_zero, List.setIfInBounds_toArray, List.set_cons_zero, List.set_cons_succ]
  refine wpAnyH_done (by kernel_rfl) ?_ _
  go_wp2_with fail
  go_ret2
  exact ⟨rfl, h5.out.2⟩
theorem close7_spec (b : Nat) (f : ByteArray) (bl : Bool) (s : ByteArray) (w : World) (hb : Box b (dftC f bl s) 65 w) (hf : f.size ≤ 140737488355328) (hs : s.size ≤ 140737488355328) :
    Calls Tryz.prog 27 #[.pointer (some ⟨b, 0, none⟩)] w fun e w' => e = .returned (.tuple #[.string (clT f bl s), .int .i64 (clE bl s)]) ∧ Below w.heap.size w w' := by
  unfold clT clE clB
  cases bl
  · exact close7_no b f s w hb hs
  · by_cases h : 67108864 < 12 + (s.size : Int)
    · rw [decide_eq_true h]
      exact close7_large b f s w hb hs h
    · rw [decide_eq_false h]
      exact close7_yes b f s w hb hf h
/-- Build's boxes: the samples', the skeleton's, the answers', the draft's. -/
structure Jb7 (w0 : World) (dp da : Array Value) (en : Int) (Q : Nat) (dd : Array Value) (w : World) : Prop where
  pb : Box w0.heap.size dp 24 w
  ab : Box (w0.heap.size + 1) da 27 w
  sb : Box (w0.heap.size + 2) #[.string ⟨#[]⟩] 9 w
  eb : Box (w0.heap.size + 3) #[.int .i64 en] 28 w
  db : Box Q dd 65 w
  lo : w0.heap.size + 3 < Q
  below : Below w0.heap.size w0 w
section
variable {w0 w w1 : World} {dp da dd : Array Value} {en : Int} {Q : Nat}
theorem Jb7.next (h : Jb7 w0 dp da en Q dd w) (hB : Below w.heap.size w w1) : Jb7 w0 dp da en Q dd w1 := ⟨h.pb.next hB, h.ab.next hB, h.sb.next hB, h.eb.next hB, h.db.next hB, h.lo, below_on h.below hB⟩
theorem Jb7.setE (h : Jb7 w0 dp da en Q dd w) (n : Int) : Jb7 w0 dp da n Q dd (w.setCell ⟨w0.heap.size + 3, 0, none⟩ (.int .i64 n)) := by
  have hl := h.lo
  exact ⟨h.pb.other (a := ⟨w0.heap.size + 3, 0, none⟩) (by show w0.heap.size ≠ w0.heap.size + 3; omega) _, h.ab.other (a := ⟨w0.heap.size + 3, 0, none⟩) (by show w0.heap.size + 1 ≠ w0.heap.size + 3; omega) _, h.sb.other (a := ⟨w0.heap.size + 3, 0, none⟩) (by show w0.heap.size + 2 ≠ w0.heap.size + 3; omega) _, h.eb.set 0 _, h.db.other (a := ⟨w0.heap.size + 3, 0, none⟩) (by show Q ≠ w0.heap.size + 3; omega) _, h.lo, h.below.setCell (by show w0.heap.size ≤ w0.heap.size + 3; omega) _⟩
theorem Jb7.aside (h : Jb7 w0 dp da en Q dd w) (ha : Aside (some ⟨Q, 0, none⟩) w w1) {d2 : Array Value} (hd : Box Q d2 65 w1) : Jb7 w0 dp da en Q d2 w1 := by
  have hl := h.lo
  have hn : ∀ b, b < Q → ∀ g off, (some (⟨Q, 0, none⟩ : Addr)) = some ⟨g, off, none⟩ → b ≠ g := fun b hb g off e => by
    cases e
    omega
  exact ⟨h.pb.aside ha (hn _ (by omega)), h.ab.aside ha (hn _ (by omega)), h.sb.aside ha (hn _ (by omega)), h.eb.aside ha (hn _ (by omega)), hd, h.lo, ha.below h.below fun g off e => by cases e; omega⟩
end
set_option maxRecDepth 20000 in
set_option maxHeartbeats 3200000 in
theorem door7 (w0 : World) (dp da : Array Value) (en : Int) (Q : Nat) (f : ByteArray) (bl : Bool) (s : ByteArray) (u : FrameMode) (w : World) (h : Jb7 w0 dp da en Q (dftC f bl s) w) (hf : f.size ≤ 140737488355328) (hs : s.size ≤ 140737488355328) :
    CallsD Tryz.prog 26 #[.pointer (some ⟨Q, 0, none⟩), .pointer (some ⟨w0.heap.size + 2, 0, none⟩), .pointer (some ⟨w0.heap.size + 3, 0, none⟩)] u w fun e u' w' => u' = u ∧ (e = .returned (.tuple #[]) ∧ Box (w0.heap.size + 2) #[.string (clT f bl s)] 9 w' ∧ Box (w0.heap.size + 3) #[.int .i64 (clE bl s)] 28 w' ∧ Below w0.heap.size w0 w') := by
  have kc := close7_spec Q f bl s w h.db hf hs
  have HJ : Hid (Jb7 w0 dp da en Q (dftC f bl s) w) := h
  clear h hf hs
  generalize clT f bl s = CT at *
  generalize clE bl s = CE at *
  go_enter_d Tryz.func26, Tryz.ntmps26
  go_wp2_with fail
  refine kc.mono ?_
  rintro e w2 ⟨rfl, hB2⟩
  have HJ2 : Hid (Jb7 w0 dp da en Q (dftC f bl s) w2) := HJ.out.next hB2
  clear kc hB2 HJ
  have r0 := HJ2.out.sb.c 0 _ rfl
  have z0 := HJ2.out.sb.z 0
  have r1 := HJ2.out.eb.c 0 _ rfl
  have z1 := HJ2.out.eb.z 0
  have HF : Hid (Box (w0.heap.size + 2) #[.string CT] 9 ((w2.setCell ⟨w0.heap.size + 2, 0, none⟩ (.string CT)).setCell ⟨w0.heap.size + 3, 0, none⟩ (.int .i64 CE)) ∧ Box (w0.heap.size + 3) #[.int .i64 CE] 28 ((w2.setCell ⟨w0.heap.size + 2, 0, none⟩ (.string CT)).setCell ⟨w0.heap.size + 3, 0, none⟩ (.int .i64 CE)) ∧ Below w0.heap.size w0 ((w2.setCell ⟨w0.heap.size + 2, 0, none⟩ (.string CT)).setCell ⟨w0.heap.size + 3, 0, none⟩ (.int .i64 CE))) :=
    ⟨(HJ2.out.sb.set 0 _).other (a := ⟨w0.heap.size + 3, 0, none⟩) (by show w0.heap.size + 2 ≠ w0.heap.size + 3; omega) _, (HJ2.out.eb.other (a := ⟨w0.heap.size + 2, 0, none⟩) (by show w0.heap.size + 3 ≠ w0.heap.size + 2; omega) _).set 0 _, (HJ2.out.below.setCell (by show w0.heap.size ≤ w0.heap.size + 2; omega) _).setCell (by show w0.heap.size ≤ w0.heap.size + 3; omega) _⟩
  go_wp2_with fail
  go_end0
  exact ⟨rfl, HF.out⟩

end Go.Proofs.YtaepgjheknkojaaGreat
