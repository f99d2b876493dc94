/- Own text: the walk of cut (aiff). the walk of Lay. -/
import Derived.Test.YtaepgjheknkojaaQ7look
import Derived.Test.YtaepgjheknkojaaQ7open
import Derived.Test.YtaepgjheknkojaaG28x
import Derived.Test.YtaepgjheknkojaaQ6lay
namespace Go.Proofs.Ytaepgjheknkojaa
open Go.RowKit
set_option linter.unusedSimpArgs false
set_option linter.unusedVariables false

/-- All that was there is as it was, but for a row of chunks. -/
structure Aside (ao : Option Addr) (w w' : World) : Prop where
  os : w'.os = w.os
  tape : w'.tape = w.tape
  output : w'.output = w.output
  size : w.heap.size ≤ w'.heap.size
  block : ∀ k, k < w.heap.size → (∀ g off, ao = some ⟨g, off, none⟩ → k ≠ g) → w'.heap[k]? = w.heap[k]?
theorem Aside.of {ao : Option Addr} {w w' : World} (h : Below w.heap.size w w') : Aside ao w w' := ⟨h.os, h.tape, h.output, h.size, fun k hk _ => h.block k hk⟩
theorem Aside.next {ao : Option Addr} {w w1 w2 : World} (h : Aside ao w w1) (hB : Below w1.heap.size w1 w2) : Aside ao w w2 :=
  ⟨hB.os.trans h.os, hB.tape.trans h.tape, hB.output.trans h.output, Nat.le_trans h.size hB.size, fun k hk hn => (hB.block k (Nat.lt_of_lt_of_le hk h.size)).trans (h.block k hk hn)⟩
theorem Aside.set {g : Nat} {w w1 : World} (h : Aside (some ⟨g, 0, none⟩) w w1) (j : Nat) (v : Value) : Aside (some ⟨g, 0, none⟩) w (w1.setCell ⟨g, j, none⟩ v) :=
  ⟨h.os, h.tape, h.output, by simpa [World.setCell] using h.size, fun k hk hn => (Below.heap_setCell _ _ _ _ (hn g 0 rfl)).trans (h.block k hk hn)⟩
theorem Box.aside {b : Nat} {d : Array Value} {T : TypeId} {ao : Option Addr} {w w' : World} (h : Box b d T w) (ha : Aside ao w w') (hn : ∀ g off, ao = some ⟨g, off, none⟩ → b ≠ g) : Box b d T w' := (ha.block b h.lt hn).trans h
theorem Aside.below {ao : Option Addr} {w0 w w' : World} (h : Aside ao w w') (hB : Below w0.heap.size w0 w) (hn : FreshC w0.heap.size ao) : Below w0.heap.size w0 w' :=
  ⟨h.os.trans hB.os, h.tape.trans hB.tape, h.output.trans hB.output, Nat.le_trans hB.size h.size, fun k hk => (h.block k (Nat.lt_of_lt_of_le hk hB.size) fun g off e => by have := hn g off e; omega).trans (hB.block k hk)⟩
/-- What cut answers. -/
def GivesC (w : World) (B : Nat) (ao : Option Addr) (cap : Nat) (l : List Chk) (x : Com) (i : Int) (e : Ending) (w' : World) : Prop := ∃ d, e = .returned (.tuple #[.string d, .int .i64 (cut7E l x i)]) ∧ Aside ao w w' ∧ (cut7E l x i = 0 → d = smpS l i ∧ OwnC B ao cap (cut7L l i) w')
theorem st_range (b : ByteArray) : 8 ≤ stN b ∧ stN b < 4294967304 := by
  have := beI_range b 0 4 (by omega)
  unfold stN
  omega
set_option maxRecDepth 20000 in
set_option maxHeartbeats 3200000 in
theorem cut7_none (x : Com) (l : List Chk) (B : Nat) (ao : Option Addr) (cap : Nat) (w : World) (hx : GoodX x) (ho : OwnC B ao cap l w) :
    Calls Try.prog 23 #[.agg (filC x (-1)), .slice ao l.length cap] w (GivesC w B ao cap l x (-1)) := by
  have HB0 : Hid (Below w.heap.size w (w.alloc (.cells (filC x (-1)) 46))) := belA _ _
  have HO : Hid (OwnC B ao cap l w) := ho
  have HSM : Hid (smpS l (-1) = ⟨#[]⟩) := rfl
  have HCL : Hid (cut7L l (-1) = l) := rfl
  have HCE : Hid (cut7E l x (-1) = if ((0 : Nat) : Int) != wantN x then 2 else 0) := rfl
  have ks := size7_spec x hx (w.alloc (.cells (filC x (-1)) 46))
  generalize wantN x = WN at *
  clear hx ho
  go_enter Try.func23, Try.ntmps23
  go_wp2_with fail
  refine ks.mono ?_
  rintro e w2 ⟨rfl, hB2⟩
  have HB2 : Hid (Below w.heap.size w w2) := below_on HB0.out hB2
  clear ks hB2 HB0
  cases hw : (0 : Int) != WN
  · have HE : Hid (cut7E l x (-1) = 0) := HCE.out.trans (by rw [show (((0 : Nat) : Int) != WN) = false from hw]; rfl)
    go_wp2_with fail
    go_ret2
    exact ⟨⟨#[]⟩, by rw [HE.out]; rfl, Aside.of HB2.out, fun _ => ⟨HSM.out.symm, by rw [HCL.out]; exact HO.out.next HB2.out⟩⟩
  · have HE : Hid (cut7E l x (-1) = 2) := HCE.out.trans (by rw [show (((0 : Nat) : Int) != WN) = true from hw]; rfl)
    go_wp2_with fail
    go_ret2
    exact ⟨⟨#[]⟩, by rw [HE.out]; rfl, Aside.of HB2.out, fun q => absurd (HE.out.symm.trans q) (by decide)⟩
set_option maxRecDepth 20000 in
set_option maxHeartbeats 3200000 in
theorem cut7_some (x : Com) (l : List Chk) (i : Nat) (c : Chk) (hc : l[i]? = some c) (hcb : c.body.size ≤ 140737488351232) (B : Nat) (ao : Option Addr) (cap : Nat) (w : World) (hx : GoodX x) (ho : OwnC B ao cap l w) :
    Calls Try.prog 23 #[.agg (filC x (i : Int)), .slice ao l.length cap] w (GivesC w B ao cap l x (i : Int)) := by
  have hil := (List.getElem?_eq_some_iff.1 hc).1
  obtain ⟨g, rfl, hBg, hgw, x0, x1, x2, hfz⟩ := ho.spot i c hc
  have hat := atC_get l i c hc
  have HCI : Hid (l[i]? = some c) := hc
  have hi1 : ((i : Int) != -1) = true := by
    rw [bne_iff_ne]
    omega
  have hin : ¬ ((i : Int) = -1) := by omega
  have HCE : Hid (cut7E l x (i : Int) = if stB c.body then (if (((smpS l (i : Int)).size : Nat) : Int) != wantN x then 2 else 0) else 2) := by
    show _ = _
    unfold cut7E
    rw [hat, hi1]
    cases stB c.body <;> rfl
  have HSM : Hid (smpS l (i : Int) = c.body.extract (stN c.body).toNat c.body.size) := by
    show _ = _
    unfold smpS
    rw [if_neg hin, hat]
  have HCL : Hid (cut7L l (i : Int) = l.set i (cut7C c)) := by
    show _ = _
    unfold cut7L
    rw [if_neg hin, hat, Int.toNat_natCast]
  have HB0 : Hid (Box w.heap.size (filC x (i : Int)) 46 (w.alloc (.cells (filC x (i : Int)) 46)) ∧ Below w.heap.size w (w.alloc (.cells (filC x (i : Int)) 46))) := ⟨Box.new _ _ _, belA _ _⟩
  have HO : Hid (OwnC B (some ⟨g, 0, none⟩) cap l w) := ho
  have kst := startOf_spec c.body
  have y1 : (w.alloc (.cells (filC x (i : Int)) 46)).cell? ⟨g, i * 3 + 1, none⟩ = some (.string c.body) := (World.cell?_of_block (w := w) (HB0.out.2.block g hgw)).trans x1
  have hz1 := hfz (i * 3 + 1)
  clear hin
  cases hst : stB c.body
  · have HE : Hid (cut7E l x (i : Int) = 2) := HCE.out.trans (by rw [hst]; rfl)
    rw [hst] at kst
    clear HCE ho hfz hat
    generalize stI c.body = SI at *
    go_enter Try.func23, Try.ntmps23
    go_wp2_with fail
    refine (kst _).mono ?_
    rintro e w2 ⟨rfl, rfl⟩
    clear kst
    go_wp2_with fail
    go_ret2
    exact ⟨⟨#[]⟩, by rw [HE.out]; rfl, Aside.of HB0.out.2, fun q => absurd (HE.out.symm.trans q) (by decide)⟩
  · have hsr := st_range c.body
    obtain ⟨hs1, hs2⟩ := Bool.and_eq_true_iff.1 hst
    have hs1 := of_decide_eq_true hs1
    have hs2 := of_decide_eq_true hs2
    have hsi : stI c.body = stN c.body := if_pos hs1
    obtain ⟨n, hn⟩ : ∃ n : Nat, stN c.body = (n : Int) := ⟨(stN c.body).toNat, by omega⟩
    have hnn : (stN c.body).toNat = n := by omega
    have hnl : n ≤ c.body.size := by omega
    rw [hst] at HCE
    simp only [if_true] at HCE
    rw [hst, hsi, hn] at kst
    rw [hnn] at HSM
    have HCC : Hid (cut7C c = ⟨c.id, c.body.extract 0 n, c.pad⟩) := by
      show _ = _
      unfold cut7C
      rw [hnn]
    have sl1 : ∀ wx, (Instr.slice 9 (.string c.body) (some (.int .i64 (n : Int))) none none).run Try.prog wx = .ok (.string (c.body.extract n c.body.size)) wx := fun wx => slice_from c.body n hnl wx
    have sl2 : ∀ wx, (Instr.slice 9 (.string c.body) none (some (.int .i64 (n : Int))) none).run Try.prog wx = .ok (.string (c.body.extract 0 n)) wx := fun wx => slice_upto c.body n hnl wx
    have kc := clone_spec (c.body.extract 0 n)
    have hcz : (c.body.extract 0 n).size ≤ 281474976710656 := by rw [ByteArray.size_extract]; omega
    have KZ : Hid (∀ wx, Calls Try.prog 49 #[sndV7 x] wx fun e w' => e = .returned (.int .i64 (wantN x)) ∧ Below wx.heap.size wx w') := fun wx => size7_spec x hx wx
    have hc2 := hc
    have HSET : Hid (∀ wx, OwnC B (some ⟨g, 0, none⟩) cap l wx → OwnC B (some ⟨g, 0, none⟩) cap (cut7L l (i : Int)) (wx.setCell ⟨g, i * 3 + 1, none⟩ (.string (c.body.extract 0 n)))) := fun wx hw => by
      rw [HCL.out, HCC.out]
      exact hw.set i c hc2 _
    have HSZ : Hid ((smpS l (i : Int)).size = (c.body.extract n c.body.size).size) := by show _ = _; rw [HSM.out]
    clear hst hs1 hs2 hsi hn hnn hsr ho hat HCC HCL hx hc hc2
    generalize wantN x = WN at *
    generalize c.body.extract n c.body.size = SMP at *
    generalize c.body.extract 0 n = CB at *
    go_enter Try.func23, Try.ntmps23
    go_wp2_with fail
    refine (kst _).mono ?_
    rintro e w2 ⟨rfl, rfl⟩
    clear kst
    go_wp2_with fail
    refine (kc _ hcz).mono ?_
    rintro e w3 ⟨rfl, hB3⟩
    have H3 : Hid (Box w.heap.size (filC x (i : Int)) 46 w3 ∧ Below w.heap.size w w3 ∧ OwnC B (some ⟨g, 0, none⟩) cap l w3) := ⟨HB0.out.1.next hB3, below_on HB0.out.2 hB3, (HO.out.next HB0.out.2).next hB3⟩
    obtain ⟨g', hg', _, _, _, x3, _, hz3⟩ : ∃ g', (some (⟨g, 0, none⟩ : Addr)) = some ⟨g', 0, none⟩ ∧ B ≤ g' ∧ g' < w3.heap.size ∧ w3.cell? ⟨g', i * 3, none⟩ = some (.string c.id) ∧ w3.cell? ⟨g', i * 3 + 1, none⟩ = some (.string c.body) ∧ w3.cell? ⟨g', i * 3 + 2, none⟩ = some (.int .i64 c.pad) ∧ (∀ j, w3.frozen? ⟨g', j, none⟩ = false) := H3.out.2.2.spot i c HCI.out
    cases hg'
    have z3 := hz3 (i * 3 + 1)
    have gne : ¬ (w.heap.size = g) := by omega
    have H4 : Hid (Box w.heap.size (filC x (i : Int)) 46 (w3.setCell ⟨g, i * 3 + 1, none⟩ (.string CB)) ∧ Aside (some ⟨g, 0, none⟩) w (w3.setCell ⟨g, i * 3 + 1, none⟩ (.string CB)) ∧ OwnC B (some ⟨g, 0, none⟩) cap (cut7L l (i : Int)) (w3.setCell ⟨g, i * 3 + 1, none⟩ (.string CB))) := ⟨H3.out.1.other (a := ⟨g, i * 3 + 1, none⟩) gne _, (Aside.of H3.out.2.1).set _ _, HSET.out w3 H3.out.2.2⟩
    clear kc hB3 HB0 hz3 HSET
    have f0 := H3.out.1.c 0 _ rfl
    have f1 := H3.out.1.c 1 _ rfl
    have f2 := H3.out.1.c 2 _ rfl
    have f3 := H3.out.1.c 3 _ rfl
    have f4 := H3.out.1.c 4 _ rfl
    clear hfz H3
    go_wp2_with fail
    refine (KZ.out _).mono ?_
    rintro e w5 ⟨rfl, hB5⟩
    have H5 : Hid (Aside (some ⟨g, 0, none⟩) w w5 ∧ OwnC B (some ⟨g, 0, none⟩) cap (cut7L l (i : Int)) w5) := ⟨H4.out.2.1.next hB5, H4.out.2.2.next hB5⟩
    clear KZ hB5 H4 f0 f1 f2 f3 f4 x3 z3
    cases hw : (SMP.size : Int) != WN
    · have HE : Hid (cut7E l x (i : Int) = 0) := HCE.out.trans (by rw [HSZ.out, hw]; rfl)
      go_wp2_with fail
      go_ret2
      exact ⟨SMP, by rw [HE.out]; rfl, H5.out.1, fun _ => ⟨HSM.out.symm, H5.out.2⟩⟩
    · have HE : Hid (cut7E l x (i : Int) = 2) := HCE.out.trans (by rw [HSZ.out, hw]; rfl)
      go_wp2_with fail
      go_ret2
      exact ⟨⟨#[]⟩, by rw [HE.out]; rfl, H5.out.1, fun q => absurd (HE.out.symm.trans q) (by decide)⟩

end Go.Proofs.Ytaepgjheknkojaa

namespace Go.Proofs.Ytaepgjheknkojaa
open Go.RowKit
set_option linter.unusedSimpArgs false
set_option linter.unusedVariables false

set_option maxRecDepth 20000 in
set_option maxHeartbeats 1600000 in
theorem Lay_spec (l : List Chk) (big : Bool) (ao : Option Addr) (cap : Nat) (w : World) (hl : ChksAt w ao l) (hf : FairL l) (hll : l.length ≤ 9000000000000000) (hsz : sizeL l ≤ 140737488355328) :
    Calls Try.prog 45 #[.slice ao l.length cap, .bool big] w fun e w' => e = .returned (.tuple #[.string (layT l big), .int .i64 (layE l)]) ∧ Below w.heap.size w w' := by
  have km := mayStand_spec l ao cap w hl hf hll
  have HL : Hid (ChksAt w ao l ∧ FairL l ∧ sizeL l ≤ 140737488355328) := ⟨hl, hf, hsz⟩
  cases hst : standB l
  · obtain ⟨e1, e2⟩ := stand_not l big hst
    rw [hst] at km
    rw [e1, e2]
    clear hl hf hsz hst e1 e2
    go_enter Try.func45, Try.ntmps45
    go_wp2_with fail
    refine km.mono ?_
    rintro e w2 ⟨rfl, hB2⟩
    have HB : Hid (Below w.heap.size w w2) := hB2
    clear km hB2
    go_wp2_with fail
    go_ret2
    exact ⟨rfl, HB.out⟩
  · have e1 := stand_lay l hst
    have HT : Hid (textOf (bytesOf ⟨#[]⟩ ++ layZ (zB big) l) = layT l big) := lay_text l big hst
    have HST : Hid (standB l = true) := hst
    rw [hst] at km
    rw [e1]
    clear hl hf hsz hst e1
    generalize layT l big = X at *
    go_enter Try.func45, Try.ntmps45
    go_wp2_with fail
    refine km.mono ?_
    rintro e w2 ⟨rfl, hB2⟩
    have HB : Hid (Below w.heap.size w w2) := hB2
    have kl := lay_spec (zB big) ⟨#[]⟩ l ao cap w2 (HL.out.1.below hB2) HL.out.2.1 HST.out (by have := HL.out.2.2; show 0 + sizeL l ≤ _; omega)
    rw [HT.out] at kl
    clear km hB2 HT HST
    go_wp2_with fail
    refine kl.mono ?_
    rintro e w3 ⟨rfl, hB3⟩
    have HB3 : Hid (Below w.heap.size w w3) := HB.out.trans (hB3.mono HB.out.size)
    clear kl hB3 HB
    go_wp2_with fail
    go_ret2
    exact ⟨rfl, HB3.out⟩

end Go.Proofs.Ytaepgjheknkojaa
