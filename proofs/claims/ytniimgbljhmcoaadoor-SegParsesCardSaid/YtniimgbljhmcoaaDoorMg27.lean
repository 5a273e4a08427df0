/-
  4 texts of a proof, joined.
-/
import Derived.Test.YtniimgbljhmcoaaDoorMg26
import Derived.Deep.Cut
import Derived.Test.YtniimgbljhmcoaaDoorMg21

/-
  The pairs that are read: the program's.
-/
namespace Go.Proofs.YtniimgbljhmcoaaDoor.opC
open Go.ChangeShapes Go.WideShapes Go.ChangeAt Go.RowKit
open Go.Proofs.YtniimgbljhmcoaaDoor.memC Go.Proofs.YtniimgbljhmcoaaDoor.genC Go.Proofs.YtniimgbljhmcoaaDoor.butC Go.Proofs.YtniimgbljhmcoaaDoor.freeC Go.Proofs.YtniimgbljhmcoaaDoor.adC
open Go.Proofs.YtniimgbljhmcoaaDoor.octC (Fr Rd RdD stopped getZ)
set_option linter.unusedVariables false
theorem pairs_snoc : ∀ (i : Nat) (b : List Int), pairsN (i + 1) b = pairsN i b ++ [(getZ ((b.drop (8 * i)).take 4), getZ (((b.drop (8 * i)).drop 4).take 4))]
  | 0, b => rfl
  | i + 1, b => by
    have ih := pairs_snoc i (b.drop 8)
    rw [pairsN, ih, List.drop_drop, show 8 + 8 * i = 8 * (i + 1) by omega]
    rfl
theorem pairs_len : ∀ (n : Nat) (b : List Int), (pairsN n b).length = n
  | 0, _ => rfl
  | n + 1, b => by rw [pairsN, List.length_cons, pairs_len n]
theorem appP_J {R : Value → World → Prop} {fr : Act} {o : Oper} {w : World} {Q : Exit → Act → World → Prop} (s x : Operand) (ho : o.op = .call { callee := .builtin .append, args := #[s, x], argTypes := #[28, 28] })
    (base : Nat) (v : Value) (ps : List (Int × Int)) (hs : fr.eval s = v) (hown : OwnP w base v ps) (B : Nat) (A : Option Addr) (m c : Nat) (qs : List (Int × Int)) (hx : fr.eval x = .slice A m c) (hr : Prs w B A m qs) (hl : ps.length + m ≤ 1000000) (hbase : base ≤ w.heap.size) (L : Nat) (hL : ps.length + m = L)
    (h : ∀ A' c' w', OwnP w' base (.slice A' L c') (ps ++ qs) → w.grownBy w' v.ownBlock → R (.slice A' L c') w') : o.wp Tryd.prog fr w (fun a' w' => ∃ v, a' = fr.put o.dst v ∧ R v w') Q := by
  obtain ⟨v', w', hrun, h2, h3⟩ := run_appP w base v ps hown o.type B A m c qs hr hl hbase
  have e : (ps ++ qs).length = L := by rw [List.length_append, hr.len]; exact hL
  obtain ⟨A', c', e2, g1, g2, N⟩ := h2.form
  rw [e] at e2
  subst e2
  unfold Oper.wp execOp
  simp only [ho, resolve, invoke, builtin, Sem.run_bind, Sem.run_pure, Result.andThen_ok, List.map_toArray, List.map_cons, List.map_nil, hs, hx, hrun]
  exact ⟨_, rfl, h A' c' w' h2 h3⟩
theorem pair_prs {w : World} {z : Nat} {x y : Int} (h : w.heap[z]? = some (.cells #[.int .u32 x, .int .u32 y] 101 (0, 0))) : Prs w w.heap.size (some ⟨z, 0, none⟩) 1 [(x, y)] :=
  ⟨rfl, fun _ => ⟨z, 0, rfl, lt_of_row h, fun i hi => by
    obtain rfl : i = 0 := by omega
    exact ⟨by rw [cell_of_row w z (0 + 0 * 2) _ _ (0, 0) h]; rfl, by rw [cell_of_row w z (0 + 0 * 2 + 1) _ _ (0, 0) h]; rfl⟩⟩⟩
theorem pair_built (x y : Int) : Tryd.prog.built 101 [(0, .int .u32 x), (1, .int .u32 y)] = some #[.int .u32 x, .int .u32 y] := by kernel_rfl
theorem built2_run {P : Program} {fr : Act} {o : Oper} {w : World} {T : TypeId} {i0 i1 : Nat} {x0 x1 : Operand} {v0 v1 : Value} {C : Array Value} (ho : o.op = .build T #[(i0, x0), (i1, x1)])
    (h0 : fr.eval x0 = v0) (h1 : fr.eval x1 = v1) (hb : P.built T [(i0, v0), (i1, v1)] = some C) : (execOp fr.eval o).run P w = .ok (.value (.agg C)) w := by
  unfold execOp
  have h : (Instr.build T #[(i0, v0), (i1, v1)]).run P w = .ok (.agg C) w := run_build w T _ C hb
  simp [ho, h0, h1, h, Result.andThen_ok]
theorem fr_belowO {S : Nat → Prop} {w w' : World} {B : Nat} (h : Fr S w w') (hS : ∀ k, S k → B ≤ k) (hw : B ≤ w.heap.size) : Below B w w' :=
  ⟨h.os, h.tape, h.output, h.size, fun k hk => h.block k (by omega) fun e => by have := hS k e; omega⟩
theorem RdD.keepG {w w' : World} {q B : Nat} {bs : List Int} (h : RdD w q B bs) {r : Option Nat} (hg : w.grownBy w' r) (hr : ∀ k, r = some k → B ≤ k ∧ k ≠ q) : RdD w' q B bs :=
  h.keep (World.grownBy.size hg) (World.grownBy.block hg q h.lt fun e => (hr q e.symm).2 rfl) fun k hk => World.grownBy.block hg k (by have := h.lt; have := h.le; omega) fun e => by have := (hr k e.symm).1; omega
theorem RdD.setO {w : World} {q B g : Nat} {bs : List Int} (h : RdD w q B bs) (hq : g ≠ q) (hB : B ≤ g) (j : Nat) (v : Value) : RdD (w.setCell ⟨g, j, none⟩ v) q B bs :=
  h.keep (by simp [World.setCell]) (Below.heap_setCell _ _ _ _ (show q ≠ g from fun e => hq e.symm)) fun k hk => Below.heap_setCell _ _ _ _ (show k ≠ g by omega)
theorem OptAt.fr {S : Nat → Prop} {w w' : World} {g : Nat} {o : Opt} {A : Option Addr} {n c : Nat} (h : OptAt w g o A n c) (F : Fr S w w') (hg : ¬ S g) : OptAt w' g o A n c := (F.block _ h.lt hg).trans h
theorem OptAt.gr {w w' : World} {g : Nat} {o : Opt} {A : Option Addr} {n c : Nat} (h : OptAt w g o A n c) {r : Option Nat} (hg : w.grownBy w' r) (hr : some g ≠ r) : OptAt w' g o A n c := (World.grownBy.block hg g h.lt hr).trans h
theorem OwnP.fr {S : Nat → Prop} {w w' : World} {base : Nat} {v : Value} {ps : List (Int × Int)} (h : OwnP w base v ps) (F : Fr S w w') (hS : ∀ k, S k → k < base) : OwnP w' base v ps :=
  h.keep fun k h1 h2 => F.block k h2 fun e => by have := hS k e; omega
abbrev SQ (q g : Nat) : Nat → Prop := fun x => x = q ∨ x = g
theorem fr_grown {w0 w w' : World} {q g base : Nat} (h : Fr (SQ q g) w0 w) (hb : w0.heap.size ≤ base) {r : Option Nat} (hg : w.grownBy w' r) (hr : ∀ k, r = some k → base ≤ k) : Fr (SQ q g) w0 w' :=
  ⟨(World.grownBy.os hg).trans h.os, (World.grownBy.tape hg).trans h.tape, (World.grownBy.output hg).trans h.output, Nat.le_trans h.size (World.grownBy.size hg), fun k hk hn => (World.grownBy.block hg k (by have := h.size; omega) fun e => by have := hr k e.symm; omega).trans (h.block k hk hn)⟩
def ljR (q B g base i : Nat) (x y : Int) (A1 : Option Addr) (c1 : Nat) (b : List Int) (o1 : Opt) (ps : List (Int × Int)) : Nat → (Nat → Value) → World → Prop
  | 0, _, w => RdD w q B b ∧ OptAt w g o1 A1 i c1 ∧ OwnP w base (.slice A1 i c1) ps ∧ base ≤ w.heap.size
  | 1, us, w => us 6 = .int .u32 x ∧ RdD w q B (b.drop 4) ∧ OptAt w g o1 A1 i c1 ∧ OwnP w base (.slice A1 i c1) ps ∧ base ≤ w.heap.size
  | 2, us, w => us 6 = .int .u32 x ∧ us 8 = .int .u32 y ∧ RdD w q B (b.drop 8) ∧ OptAt w g o1 A1 i c1 ∧ OwnP w base (.slice A1 i c1) ps ∧ base ≤ w.heap.size
  | 3, us, w => us 9 = .agg #[.int .u32 x, .int .u32 y] ∧ RdD w q B (b.drop 8) ∧ OptAt w g o1 A1 i c1 ∧ OwnP w base (.slice A1 i c1) ps ∧ base ≤ w.heap.size
  | 4, us, w => (∃ z, us 10 = .slice (some ⟨z, 0, none⟩) 1 1 ∧ w.heap[z]? = some (.cells #[.int .u32 x, .int .u32 y] 101 (0, 0))) ∧ RdD w q B (b.drop 8) ∧ OptAt w g o1 A1 i c1 ∧ OwnP w base (.slice A1 i c1) ps ∧ base ≤ w.heap.size
  | 5, us, w => ∃ A2 c2, us 11 = .slice A2 (i + 1) c2 ∧ RdD w q B (b.drop 8) ∧ OptAt w g o1 A1 i c1 ∧ OwnP w base (.slice A2 (i + 1) c2) (ps ++ [(x, y)])
  | 6, _, w => ∃ A2 c2, RdD w q B (b.drop 8) ∧ OptAt w g { o1 with sk := ps ++ [(x, y)] } A2 (i + 1) c2 ∧ OwnP w base (.slice A2 (i + 1) c2) (ps ++ [(x, y)])
  | _, _, _ => True
theorem ljR.keep (q B g base i : Nat) (x y : Int) (A1 : Option Addr) (c1 : Nat) (b : List Int) (o1 : Opt) (ps : List (Int × Int)) (k : Nat) (us us' : Nat → Value) (w w' : World) (h : ∀ x ∈ [6, 8, 9, 10, 11, 14], us' x = us x) (hb : Below w.heap.size w w') (hR : ljR q B g base i x y A1 c1 b o1 ps k us w) : ljR q B g base i x y A1 c1 b o1 ps k us' w' := by
  have h6 := h 6 (by simp); have h8 := h 8 (by simp); have h9 := h 9 (by simp); have h10 := h 10 (by simp); have h11 := h 11 (by simp)
  have hz := hb.size
  unfold ljR at hR ⊢
  split at hR
  · exact ⟨hR.1.below hb, hR.2.1.bel hb, hR.2.2.1.below hb, Nat.le_trans hR.2.2.2 hz⟩
  · exact ⟨h6.trans hR.1, hR.2.1.below hb, hR.2.2.1.bel hb, hR.2.2.2.1.below hb, Nat.le_trans hR.2.2.2.2 hz⟩
  · exact ⟨h6.trans hR.1, h8.trans hR.2.1, hR.2.2.1.below hb, hR.2.2.2.1.bel hb, hR.2.2.2.2.1.below hb, Nat.le_trans hR.2.2.2.2.2 hz⟩
  · exact ⟨h9.trans hR.1, hR.2.1.below hb, hR.2.2.1.bel hb, hR.2.2.2.1.below hb, Nat.le_trans hR.2.2.2.2 hz⟩
  · obtain ⟨⟨z, a1, a2⟩, a3⟩ := hR
    exact ⟨⟨z, h10.trans a1, by rw [hb.block _ (lt_of_row a2)]; exact a2⟩, a3.1.below hb, a3.2.1.bel hb, a3.2.2.1.below hb, Nat.le_trans a3.2.2.2 hz⟩
  · obtain ⟨A2, c2, a1, a2, a3, a4⟩ := hR
    exact ⟨A2, c2, h11.trans a1, a2.below hb, a3.bel hb, a4.below hb⟩
  · obtain ⟨A2, c2, a2, a3, a4⟩ := hR
    exact ⟨A2, c2, a2.below hb, a3.bel hb, a4.below hb⟩
  · trivial
def ljV (g0 q0 kx : Nat) (A1 : Option Addr) (c1 : Nat) : Nat → Value → World → Prop
  | 0, v, _ => v = .pointer (some ⟨g0, 0, none⟩)
  | 1, v, _ => v = .pointer (some ⟨g0, 0, none⟩)
  | 2, v, _ => v = .pointer (some ⟨g0, 0, none⟩)
  | 3, v, _ => v = .pointer (some ⟨g0, 5, none⟩)
  | 4, v, _ => v = .slice A1 kx c1
  | 5, v, _ => v = .pointer (some ⟨q0, 0, none⟩)
  | 7, v, _ => v = .pointer (some ⟨q0, 0, none⟩)
  | 12, v, _ => v = .pointer (some ⟨g0, 0, none⟩)
  | 13, v, _ => v = .pointer (some ⟨g0, 5, none⟩)
  | _, _, _ => True
theorem ljV.keep (g0 q0 kx : Nat) (A1 : Option Addr) (c1 : Nat) (i : Nat) (v : Value) (w w' : World) (hd : Below w.heap.size w w' ∨ True) (h : ljV g0 q0 kx A1 c1 i v w) : ljV g0 q0 kx A1 c1 i v w' := by
  unfold ljV at h ⊢
  split at h <;> exact h
def ljT : List (Option Nat) := [none, none, none, none, none, none, none, none, none, none, none, none, none, none, none, none, none, none, none, none, none, none, none, none, none, none, none, none, none, none, none, none, none, none, none, none, none, none, none, none, none, none, none, none, none, none, none, none, none, none, none, none, none, none, some 0, some 1, some 2, some 3, some 4, some 5, some 6, some 7, some 8, some 9, some 10, some 11, some 12, some 13, none, none, none, none, none, none, none, none, none, none, none, none, none, none, none, none, none, none, none, none, none, none]
section
variable {w : World} {q g B : Nat} {o : Opt} {A : Option Addr} {n c : Nat} {b : List Int}
set_option maxRecDepth 100000 in
set_option maxHeartbeats 4000000 in
theorem add5 (hS : St w g o A n c) (hR : RdD w q B b) (hgq : g < q) (hBg : B ≤ g) (hne : ∀ k, (Value.slice A n c).ownBlock = some k → k ≠ q) (hy : ∀ x ∈ b, Byte x) (hsk : o.sk = []) (m : Nat) (hl : b.length = 8 * m) (hm0 : 0 < m) (hm : m ≤ 4) : Calls Tryd.prog 101 #[.pointer (some ⟨g, 0, none⟩), .int .u8 5, .pointer (some ⟨q, 0, none⟩)] w (AddR w q g (addO o 5 b)) := by
  obtain ⟨rfl, rfl, rfl⟩ := hS.nil hsk
  have e5 : addO o 5 b = { o with sk := pairsN m b } := by
    show ({ o with sk := o.sk ++ pairsN (b.length / 8) b } : Opt) = _
    rw [hsk, List.nil_append, show b.length / 8 = m by omega]
  rw [e5]
  have HQ := Lib.hid (show q < w.heap.size from hR.lt)
  have HG := Lib.hid hgq
  have HBg := Lib.hid hBg
  have LBB := Lib.hid hl
  have HY := Lib.hid hy
  have HM := Lib.hid hm
  have HM0 := Lib.hid hm0
  have M0 := Lib.hid hS.mac
  have GW := Lib.hid hS.lt
  have RI := Lib.hid (show OptAt w g { o with sk := pairsN 0 b } none 0 0 by rw [show pairsN 0 b = o.sk by rw [hsk]; rfl]; exact hS.row)
  have RD := Lib.hid hR
  clear hS hR hgq hBg hne hy hsk hl hm hm0 e5
  go_enter Tryd.func101, Tryd.ntmps101
  go_upto_region 10 with fail
  go_loopw [] (fun wr => ∃ (i : Nat) (A1 : Option Addr) (c1 : Nat), 8 * i ≤ b.length ∧ RdD wr q B (b.drop (8 * i)) ∧ OptAt wr g { o with sk := pairsN i b } A1 i c1 ∧ OwnP wr w.heap.size (.slice A1 i c1) (pairsN i b) ∧ Fr (SQ q g) w wr) (fun wr => lenOfV ((wr.cell? ⟨q, 0, none⟩).getD undef))
  case atStart => exact ⟨0, none, 0, by omega, RD.out, RI.out, OwnP.nil _ _, Fr.refl _⟩
  case round =>
    obtain ⟨i, A1, c1, hi8, r1, r2, r3, fw⟩ := hrel
    have S1 := Lib.hid r1
    have S2 := Lib.hid r2
    have S3 := Lib.hid r3
    have S4 := Lib.hid (show w.heap.size ≤ wr.heap.size from fw.size)
    have FW := Lib.hid fw
    have GLT := Lib.hid r2.lt
    have HI8 := Lib.hid hi8
    have LF := Lib.hid (left_any r1)
    rw [List.length_drop] at LF
    have hbb := LBB.out
    have hm4 := HM.out
    by_cases hlt : i < m
    · obtain ⟨r, hr⟩ : ∃ r, r = b.length - 8 * i := ⟨_, rfl⟩
      rw [← hr] at LF
      have q1 : (0 : Int) < (r : Int) := by omega
      have q2 : 0 < r := by omega
      obtain ⟨b', hb'⟩ : ∃ b', b' = b.drop (8 * i) := ⟨_, rfl⟩
      have EB := Lib.hid hb'
      have LB := Lib.hid (show 8 ≤ b'.length by rw [hb', List.length_drop]; omega)
      have LB2 := Lib.hid (show b'.length ≤ 32 by rw [hb', List.length_drop]; omega)
      have YB := Lib.hid (show ∀ z ∈ b', Byte z by rw [hb']; exact fun z hz => HY.out z (List.mem_of_mem_drop hz))
      obtain ⟨x, hx⟩ : ∃ x, x = getZ (b'.take 4) := ⟨_, rfl⟩
      obtain ⟨y, hy⟩ : ∃ y, y = getZ ((b'.drop 4).take 4) := ⟨_, rfl⟩
      have EX := Lib.hid hx.symm
      have EY := Lib.hid hy.symm
      have EP := Lib.hid (show pairsN (i + 1) b = pairsN i b ++ [(x, y)] by rw [pairs_snoc, ← hb', hx, hy])
      obtain ⟨ps, hps⟩ : ∃ ps, ps = pairsN i b := ⟨_, rfl⟩
      obtain ⟨o1, ho1⟩ : ∃ o1, o1 = { o with sk := pairsN i b } := ⟨_, rfl⟩
      have EO := Lib.hid (show ({ o1 with sk := pairsN (i + 1) b } : Opt) = { o with sk := pairsN (i + 1) b } by rw [ho1])
      have M1 := Lib.hid (show o1.mac.length = 12 by rw [ho1]; exact M0.out)
      have LP := Lib.hid (show ps.length = i by rw [hps]; exact pairs_len i b)
      have LI := Lib.hid (show i < 100 by omega)
      rw [← hb'] at S1
      rw [← ho1] at S2
      rw [← hps] at S3 EP
      clear hb' hx hy hps ho1 hr hlt hbb hm4 hi8 r1 r2 r3 fw
      go_upto_region 11 with (first
        | (go_at_call 79; refine LF.out.mono ?_; rintro e w2 ⟨rfl, hw⟩; obtain rfl := hw.symm))
      clear q1 q2
      refine with_act fun a0 ha0 => ?_
      have hl : ljT.length = a0.tmps.size := by rw [ha0]; rfl
      have k0 : a0.tmps[0]?.getD undef = .pointer (some ⟨g, 0, none⟩) := by rw [ha0]; rfl
      have k2 : a0.tmps[2]?.getD undef = .pointer (some ⟨q, 0, none⟩) := by rw [ha0]; rfl
      refine wp_region_che (by kernel_rfl) ljT (by kernel_rfl) (by kernel_rfl) hl (fun i => a0.tmps[i + 54]?.getD undef) (by rw [ha0]; rfl) (g) (fun w1 w2 => Fr (SQ q g) w w1 → Fr (SQ q g) w w2) [6, 8, 9, 10, 11, 14] (by kernel_rfl) (by decide) (by decide) (Fr (SQ q g) w) (ljV g q i A1 c1) (ljR q B g w.heap.size i x y A1 c1 b' o1 ps) (Nat.le_of_lt GLT.out) (FW.out.trans (Fr.below (Below.refl _ _).drew)) ⟨S1.out.keep (Nat.le_refl _) rfl fun _ _ => rfl, S2.out, S3.out.keep fun _ _ _ => rfl, S4.out⟩ (fun w1 w2 hb hd h => by rcases hd with hd | hd; exact h.trans (Fr.below hd); exact hd h) (fun i v w w' _ _ h => ljV.keep _ _ _ _ _ i v w w' (.inr trivial) h) (fun k us us' w w' h _ hb hR => ljR.keep _ _ _ _ _ _ _ _ _ _ _ _ k us us' w w' h hb hR) ⟨?_, ?_, ?_, ?_, ?_, ?_, ?_, ?_, ?_, ?_, ?_, ?_, ?_, ?_, ?_, trivial⟩ ?_
      · refine stepE_val [] (by kernel_rfl) (by decide) (by decide) rfl fun us w' hB hG hV => ?_
        have o0 := (frame_old2 (us := us) (a := a0) (show (ljT[0]?).join = none from rfl)).trans k0
        generalize frame ljT a0 us = fr at *
        exact val_C (v := .pointer (some ⟨g, 0, none⟩)) (w' := w') (by go_simp) (Below.refl _ _) rfl
      · refine stepE_val [] (by kernel_rfl) (by decide) (by decide) rfl fun us w' hB hG hV => ?_
        have o0 := (frame_old2 (us := us) (a := a0) (show (ljT[0]?).join = none from rfl)).trans k0
        generalize frame ljT a0 us = fr at *
        exact val_C (v := .pointer (some ⟨g, 0, none⟩)) (w' := w') (by go_simp) (Below.refl _ _) rfl
      · refine stepE_val [1] (by kernel_rfl) (by decide) (by decide) rfl fun us w' hB hG hV => ?_
        have e1 : us 1 = .pointer (some ⟨g, 0, none⟩) := hV 1 (by simp)
        have v1 := (frame_at2 (us := us) hl (show (ljT[55]?).join = some 1 from rfl)).trans e1
        generalize frame ljT a0 us = fr at *
        exact val_C (v := .pointer (some ⟨g, 0, none⟩)) (w' := w') (by go_simp) (Below.refl _ _) rfl
      · refine stepE_val [2] (by kernel_rfl) (by decide) (by decide) rfl fun us w' hB hG hV => ?_
        have e2 : us 2 = .pointer (some ⟨g, 0, none⟩) := hV 2 (by simp)
        have v2 := (frame_at2 (us := us) hl (show (ljT[56]?).join = some 2 from rfl)).trans e2
        generalize frame ljT a0 us = fr at *
        exact val_C (v := .pointer (some ⟨g, 5, none⟩)) (w' := w') (by go_simp) (Below.refl _ _) rfl
      · refine stepE_early 0 4 (.inl rfl) (.inr ⟨_, _, rfl, rfl, by kernel_rfl⟩) [3] (by kernel_rfl) (by decide) (by decide) rfl fun us w' k hB hG hV hk hR => ?_
        have e3 : us 3 = .pointer (some ⟨g, 5, none⟩) := hV 3 (by simp)
        have v3 := (frame_at2 (us := us) hl (show (ljT[57]?).join = some 3 from rfl)).trans e3
        have hrw : OptAt w' g o1 A1 i c1 := by
          obtain ⟨h1, h2⟩ := hk
          match k, h1, h2, hR with
          | 0, _, _, hR => exact hR.2.1
          | 1, _, _, hR => exact hR.2.2.1
          | 2, _, _, hR => exact hR.2.2.2.1
          | 3, _, _, hR => exact hR.2.2.1
          | 4, _, _, hR => exact hR.2.2.1
        have hc := pkC.PkC.cell hrw (optC M1.out A1 i c1).sk
        generalize frame ljT a0 us = fr at *
        exact val_C (v := .slice A1 i c1) (w' := w') (by go_simp) (Below.refl _ _) rfl
      · refine stepE_val [] (by kernel_rfl) (by decide) (by decide) rfl fun us w' hB hG hV => ?_
        have o2 := (frame_old2 (us := us) (a := a0) (show (ljT[2]?).join = none from rfl)).trans k2
        generalize frame ljT a0 us = fr at *
        exact val_C (v := .pointer (some ⟨q, 0, none⟩)) (w' := w') (by go_simp) (Below.refl _ _) rfl
      · refine stepE_chain 0 rfl (by decide) [5] (by kernel_rfl) (by decide) rfl fun us w' hB hG hV hR => ?_
        have e5 : us 5 = .pointer (some ⟨q, 0, none⟩) := hV 5 (by simp)
        have v5 := (frame_at2 (us := us) hl (show (ljT[59]?).join = some 5 from rfl)).trans e5
        generalize frame ljT a0 us = fr at *
        exact call_J (R := fun v w'' => ((Fr (SQ q g) w w' → Fr (SQ q g) w w'') ∧ Below g w' w'') ∧ ljR q B g w.heap.size i x y A1 c1 b' o1 ps 1 (upd us 6 v) w'') (f := 102) (args := #[.pointer (some ⟨q, 0, none⟩)]) (by go_simp) ((number_ok q B b' w' hR.1 (by have := LB.out; omega) (by have := LB2.out; omega) YB.out).mono fun e w'' ⟨h1, h2, h3⟩ => ⟨_, h1, ⟨fun h => h.trans (frq h3), fr_belowO h3 (fun k hk => by have := HG.out; omega) hB⟩, by rw [upd_same]; exact congrArg (Value.int .u32) EX.out, h2, OptAt.fr hR.2.1 h3 (by have := HG.out; omega), OwnP.fr hR.2.2.1 h3 (fun k hk => by have := HQ.out; omega), Nat.le_trans hR.2.2.2 h3.size⟩)
      · refine stepE_val [] (by kernel_rfl) (by decide) (by decide) rfl fun us w' hB hG hV => ?_
        have o2 := (frame_old2 (us := us) (a := a0) (show (ljT[2]?).join = none from rfl)).trans k2
        generalize frame ljT a0 us = fr at *
        exact val_C (v := .pointer (some ⟨q, 0, none⟩)) (w' := w') (by go_simp) (Below.refl _ _) rfl
      · refine stepE_chain 1 rfl (by decide) [7] (by kernel_rfl) (by decide) rfl fun us w' hB hG hV hR => ?_
        have e7 : us 7 = .pointer (some ⟨q, 0, none⟩) := hV 7 (by simp)
        have v7 := (frame_at2 (us := us) hl (show (ljT[61]?).join = some 7 from rfl)).trans e7
        generalize frame ljT a0 us = fr at *
        exact call_J (R := fun v w'' => ((Fr (SQ q g) w w' → Fr (SQ q g) w w'') ∧ Below g w' w'') ∧ ljR q B g w.heap.size i x y A1 c1 b' o1 ps 2 (upd us 8 v) w'') (f := 102) (args := #[.pointer (some ⟨q, 0, none⟩)]) (by go_simp) ((number_ok q B (b'.drop 4) w' hR.2.1 (by have := LB.out; rw [List.length_drop]; omega) (by have := LB2.out; rw [List.length_drop]; omega) (fun z hz => YB.out z (List.mem_of_mem_drop hz))).mono fun e w'' ⟨h1, h2, h3⟩ => ⟨_, h1, ⟨fun h => h.trans (frq h3), fr_belowO h3 (fun k hk => by have := HG.out; omega) hB⟩, by rw [upd_other _ _ (by decide)]; exact hR.1, by rw [upd_same]; exact congrArg (Value.int .u32) EY.out, by rw [List.drop_drop] at h2; exact h2, OptAt.fr hR.2.2.1 h3 (by have := HG.out; omega), OwnP.fr hR.2.2.2.1 h3 (fun k hk => by have := HQ.out; omega), Nat.le_trans hR.2.2.2.2 h3.size⟩)
      · refine stepE_chain 2 rfl (by decide) [] (by kernel_rfl) (by decide) rfl fun us w' hB hG hV hR => ?_
        have v6 := (frame_at2 (us := us) hl (show (ljT[60]?).join = some 6 from rfl)).trans hR.1
        have v8 := (frame_at2 (us := us) hl (show (ljT[62]?).join = some 8 from rfl)).trans hR.2.1
        generalize frame ljT a0 us = fr at *
        exact val_J (R := fun v w'' => ((Fr (SQ q g) w w' → Fr (SQ q g) w w'') ∧ Below g w' w'') ∧ ljR q B g w.heap.size i x y A1 c1 b' o1 ps 3 (upd us 9 v) w'') (v := .agg #[.int .u32 x, .int .u32 y]) (w' := w') (built2_run (T := 101) rfl (eval_tmp v6) (eval_tmp v8) (pair_built x y)) ⟨⟨fun h => h, Below.refl _ _⟩, upd_same _ _ _, hR.2.2⟩
      · refine stepE_chain 3 rfl (by decide) [] (by kernel_rfl) (by decide) rfl fun us w' hB hG hV hR => ?_
        have v9 := (frame_at2 (us := us) hl (show (ljT[63]?).join = some 9 from rfl)).trans hR.1
        generalize frame ljT a0 us = fr at *
        exact val_J (R := fun v w'' => ((Fr (SQ q g) w w' → Fr (SQ q g) w w'') ∧ Below g w' w'') ∧ ljR q B g w.heap.size i x y A1 c1 b' o1 ps 4 (upd us 10 v) w'') (v := .slice (some ⟨w'.heap.size, 0, none⟩) 1 1) (w' := w'.alloc (.cells #[.int .u32 x, .int .u32 y] 101)) (by go_simp) ⟨⟨fun h => h.trans (Fr.alloc _ _), (alloc_below w' _).mono hB⟩, ⟨w'.heap.size, upd_same _ _ _, heap_alloc_new w' _⟩, hR.2.1.below (alloc_below w' _), hR.2.2.1.bel (alloc_below w' _), hR.2.2.2.1.below (alloc_below w' _), Nat.le_trans hR.2.2.2.2 (alloc_below w' _).size⟩
      · refine stepE_chain 4 rfl (by decide) [4] (by kernel_rfl) (by decide) rfl fun us w' hB hG hV hR => ?_
        have e4 : us 4 = .slice A1 i c1 := hV 4 (by simp)
        have v4 := (frame_at2 (us := us) hl (show (ljT[58]?).join = some 4 from rfl)).trans e4
        obtain ⟨⟨z, e10, hz⟩, a1, a2, a3, a4⟩ := (show (∃ z, us 10 = .slice (some ⟨z, 0, none⟩) 1 1 ∧ w'.heap[z]? = some (.cells #[.int .u32 x, .int .u32 y] 101 (0, 0))) ∧ RdD w' q B (b'.drop 8) ∧ OptAt w' g o1 A1 i c1 ∧ OwnP w' w.heap.size (.slice A1 i c1) ps ∧ w.heap.size ≤ w'.heap.size from hR)
        have v10 := (frame_at2 (us := us) hl (show (ljT[64]?).join = some 10 from rfl)).trans e10
        have hbk := a3.blk
        generalize frame ljT a0 us = fr at *
        exact appP_J (R := fun v w'' => ((Fr (SQ q g) w w' → Fr (SQ q g) w w'') ∧ Below g w' w'') ∧ ljR q B g w.heap.size i x y A1 c1 b' o1 ps 5 (upd us 11 v) w'') (.tmp 58) (.tmp 64) rfl w.heap.size _ ps (eval_tmp v4) a3 w'.heap.size _ 1 1 [(x, y)] (eval_tmp v10) (pair_prs hz) (by rw [LP.out]; have := LI.out; omega) a4 (i + 1) (by rw [LP.out]) fun A' c' w'' O' G' => ⟨⟨fun h => fr_grown h (Nat.le_refl _) G' (fun k hk => (hbk k hk).1), (Below.refl g w').grown G' hB (fun k hk => by have := (hbk k hk).1; have := HQ.out; have := HG.out; omega)⟩, A', c', upd_same _ _ _, RdD.keepG a1 G' (fun k hk => by have := (hbk k hk).1; have := HQ.out; have := HG.out; have := HBg.out; omega), OptAt.gr a2 G' (fun e => by have := (hbk g e.symm).1; have := HQ.out; have := HG.out; omega), O'⟩
      · refine stepE_val [0] (by kernel_rfl) (by decide) (by decide) rfl fun us w' hB hG hV => ?_
        have e0 : us 0 = .pointer (some ⟨g, 0, none⟩) := hV 0 (by simp)
        have v0 := (frame_at2 (us := us) hl (show (ljT[54]?).join = some 0 from rfl)).trans e0
        generalize frame ljT a0 us = fr at *
        exact val_C (v := .pointer (some ⟨g, 0, none⟩)) (w' := w') (by go_simp) (Below.refl _ _) rfl
      · refine stepE_val [12] (by kernel_rfl) (by decide) (by decide) rfl fun us w' hB hG hV => ?_
        have e12 : us 12 = .pointer (some ⟨g, 0, none⟩) := hV 12 (by simp)
        have v12 := (frame_at2 (us := us) hl (show (ljT[66]?).join = some 12 from rfl)).trans e12
        generalize frame ljT a0 us = fr at *
        exact val_C (v := .pointer (some ⟨g, 5, none⟩)) (w' := w') (by go_simp) (Below.refl _ _) rfl
      · refine stepE_chain 5 rfl (by decide) [13] (by kernel_rfl) (by decide) rfl fun us w' hB hG hV hR => ?_
        have e13 : us 13 = .pointer (some ⟨g, 5, none⟩) := hV 13 (by simp)
        have v13 := (frame_at2 (us := us) hl (show (ljT[67]?).join = some 13 from rfl)).trans e13
        obtain ⟨A2, c2, e11, a1, a2, a3⟩ := (show ∃ A2 c2, us 11 = .slice A2 (i + 1) c2 ∧ RdD w' q B (b'.drop 8) ∧ OptAt w' g o1 A1 i c1 ∧ OwnP w' w.heap.size (.slice A2 (i + 1) c2) (ps ++ [(x, y)]) from hR)
        have v11 := (frame_at2 (us := us) hl (show (ljT[65]?).join = some 11 from rfl)).trans e11
        have hc := pkC.PkC.cell a2 (optC M1.out A1 i c1).sk
        have hf := a2.frozen 5
        generalize frame ljT a0 us = fr at *
        exact free_skip (w' := w'.setCell ⟨g, 5, none⟩ (.slice A2 (i + 1) c2)) (by go_simp) ⟨undef, rfl, ⟨fun h => fr_set h _, (Below.refl g w').setCell (p := ⟨g, 5, none⟩) (Nat.le_refl _) _⟩, A2, c2, RdD.setO a1 (by have := HG.out; omega) HBg.out 5 _, a2.set_ 5 _ (optV_sk _), a3.keep fun k h1 h2 => Below.heap_setCell _ _ _ _ (by have := HQ.out; have := HG.out; show k ≠ g; omega)⟩
      · intro us w6 hB2 hG hV hR
        obtain ⟨A6, c6, r1, r2, r3⟩ := (show ∃ A2 c2, RdD w6 q B (b'.drop 8) ∧ OptAt w6 g { o1 with sk := ps ++ [(x, y)] } A2 (i + 1) c2 ∧ OwnP w6 w.heap.size (.slice A2 (i + 1) c2) (ps ++ [(x, y)]) from hR)
        have H1 := Lib.hid r1
        have H2 := Lib.hid r2
        have H3 := Lib.hid r3
        have HG6 := Lib.hid hG
        subst ha0
        simp only [frame, ljT, fill]
        clear hV hG hl k0 k2 r1 r2 r3 hR
        go_wp2_with fail
        go_roundw
        case rel =>
          have hbl : b'.length = b.length - 8 * i := by rw [EB.out, List.length_drop]
          refine ⟨i + 1, A6, c6, by have := HI8.out; have := LB.out; omega, ?_, ?_, ?_, HG6.out⟩
          · have h := H1.out
            rw [EB.out, List.drop_drop, show 8 * i + 8 = 8 * (i + 1) by omega] at h
            exact h
          · have h := H2.out
            rw [← EP.out] at h
            rw [EO.out] at h
            exact h
          · rw [EP.out]; exact H3.out
        case measure =>
          obtain ⟨Aa, na, ca, ha, _, _, Na, _⟩ := H1.out
          obtain ⟨Ab, nb, cb, hb, _, _, Nb, _⟩ := S1.out
          have la := Na.len
          have lb := Nb.len
          have l8 := LB.out
          rw [List.length_drop] at la
          rw [ha, hb]
          simp only [Option.getD_some, lenOfV]
          omega
    · have him : i = m := by omega
      subst him
      have er : b.length - 8 * i = 0 := by omega
      rw [er] at LF
      clear hbb hm4 hi8 r1 r2 r3 fw er hlt
      go_wp2_with (first
        | (go_at_call 79; refine LF.out.mono ?_; rintro e w2 ⟨rfl, hw⟩; obtain rfl := hw.symm))
      go_end0
      refine ⟨rfl, FW.out, A1, i, c1, S2.out, M0.out, pairs_len i b, S3.out.less (by have := GW.out; omega), fun h => ?_⟩
      have h1 := pairs_len i b
      have h2 := HM0.out
      rw [show pairsN i b = [] from h] at h1
      simp at h1
      omega
end
end Go.Proofs.YtniimgbljhmcoaaDoor.opC

/-
  An option is added, and options are read: the program's.
-/
namespace Go.Proofs.YtniimgbljhmcoaaDoor.opC
open Go.ChangeShapes Go.WideShapes Go.ChangeAt Go.RowKit
open Go.Proofs.YtniimgbljhmcoaaDoor.memC Go.Proofs.YtniimgbljhmcoaaDoor.genC Go.Proofs.YtniimgbljhmcoaaDoor.butC Go.Proofs.YtniimgbljhmcoaaDoor.freeC Go.Proofs.YtniimgbljhmcoaaDoor.adC
open Go.Proofs.YtniimgbljhmcoaaDoor.octC (Fr Rd RdD stopped getZ)
set_option linter.unusedVariables false
theorem add_any {w : World} {q g B : Nat} {o : Opt} {A : Option Addr} {n c : Nat} {b : List Int} (k : Int) (hS : St w g o A n c) (hR : RdD w q B b) (hgq : g < q) (hBg : B ≤ g) (hne : ∀ k, (Value.slice A n c).ownBlock = some k → k ≠ q) (hy : ∀ x ∈ b, Byte x)
    (hw : wantN k b.length = 2 + b.length) (h38 : b.length ≤ 38) (hh : hasB o k = false) : Calls Tryd.prog 101 #[.pointer (some ⟨g, 0, none⟩), .int .u8 k, .pointer (some ⟨q, 0, none⟩)] w (AddR w q g (addO o k b)) := by
  unfold wantN sizeK at hw
  by_cases h2 : k = 2
  · subst h2; rw [if_pos rfl] at hw; exact add2 hS hR hgq hBg hne hy (by omega)
  rw [if_neg h2] at hw
  by_cases h3 : k = 3
  · subst h3; rw [if_pos rfl] at hw; exact add3 hS hR hgq hBg hne hy (by omega)
  rw [if_neg h3] at hw
  by_cases h4 : k = 4
  · subst h4; exact add4 hS hR hgq hBg hne hy
  rw [if_neg h4] at hw
  by_cases h8 : k = 8
  · subst h8; rw [if_pos rfl] at hw; exact add8 hS hR hgq hBg hne hy (by omega)
  rw [if_neg h8] at hw
  by_cases h5 : k = 5
  · subst h5
    rw [if_pos rfl] at hw
    have hs0 : o.sk = [] := by
      have : ¬ 0 < o.sk.length := by simpa [hasB] using hh
      exact List.eq_nil_of_length_eq_zero (by omega)
    exact add5 hS hR hgq hBg hne hy hs0 (max (b.length / 8) 1) (by omega) (by omega) (by omega)
  rw [if_neg h5] at hw
  by_cases h29 : k = 29
  · subst h29; rw [if_pos rfl] at hw; exact add29 hS hR hgq hBg hne hy (by omega)
  rw [if_neg h29] at hw
  omega
def TakeR (w : World) (q g : Nat) (o : Opt) (k : Int) (b : List Int) (e : Ending) (w' : World) : Prop :=
  e = .returned (.int .i64 (takeE o k b)) ∧ Fr (SQ q g) w w' ∧ (takeE o k b = 0 → ∃ A n c, St w' g (takeO o k b) A n c)
set_option maxRecDepth 100000 in
set_option maxHeartbeats 800000 in
theorem take_any (k : Int) {w : World} {q g B : Nat} {o : Opt} {A : Option Addr} {n c : Nat} {b : List Int} (hS : St w g o A n c) (hR : RdD w q B b) (hgq : g < q) (hBg : B ≤ g) (hne : ∀ k, (Value.slice A n c).ownBlock = some k → k ≠ q) (hy : ∀ x ∈ b, Byte x) (h38 : b.length ≤ 38) (hk : Byte k) :
    Calls Tryd.prog 99 #[.pointer (some ⟨g, 0, none⟩), .int .u8 k, .pointer (some ⟨q, 0, none⟩)] w (TakeR w q g o k b) := by
  have LF := Lib.hid (left_any hR)
  have SZ := Lib.hid (fun (z : Int) (h : ((max (b.length / 8) 1 : Nat) : Int) = z) => size_any k (max (b.length / 8) 1) z w h (by omega))
  have HGQ := Lib.hid hgq; have HBG := Lib.hid hBg; have HNE := Lib.hid hne; have HY := Lib.hid hy; have H38 := Lib.hid h38; have HRD := Lib.hid hR
  have HAS := Lib.hid (has_any o A n c k w hS.mac hS.len)
  have HS := Lib.hid hS
  have RW := Lib.hid (show w.heap[g]? = some (.cells (optV o A n c) 31 (0, 0)) from hS.row)
  have IC := Lib.hid (optC hS.mac A n c).info
  have hlq : g < w.heap.size := hS.lt
  have EV := Lib.hid (show takeE o k b = if wantN k b.length = 0 then 0 else if wantN k b.length ≠ 2 + b.length then 3 else if hasB o k = true then 7 else 0 from rfl)
  have EO := Lib.hid (show takeO o k b = if wantN k b.length = 0 then o else addO o k b from rfl)
  obtain ⟨W0, hW0⟩ : ∃ W0, W0 = wantN k b.length := ⟨_, rfl⟩
  have EW := Lib.hid (show sizeK k (max (b.length / 8) 1) = W0 from hW0.symm)
  rw [← hW0] at EV EO
  rw [EW.out] at SZ
  have W50 := Lib.hid (show W0 ≤ 100 by rw [hW0]; unfold wantN sizeK; repeat (first | omega | split))
  clear hS hR hgq hBg hne hy hW0 hk
  obtain ⟨L, hL⟩ : ∃ L, L = b.length := ⟨_, rfl⟩
  rw [← hL] at LF SZ EV h38
  have HL := Lib.hid hL
  clear hL
  have htd : (L : Int).tdiv 8 = ((L / 8 : Nat) : Int) := by rw [Int.tdiv_eq_ediv_of_nonneg (by omega)]; omega
  unfold TakeR
  generalize optV o A n c = C at *
  obtain ⟨D, hD⟩ : ∃ D, D = L / 8 := ⟨_, rfl⟩
  rw [← hD] at htd SZ
  have w2l : IntKind.i64.wrap (2 + (L : Int)) = 2 + (L : Int) := IntWalk.i64_in _ (by omega)
  go_enter Tryd.func99, Tryd.ntmps99
  go_upto_region 1 with fail
  go_cut [7] from 8 (fun v wc => v = .int .i64 (W0 : Int) ∧ wc = w)
  case first =>
    rcases (show D = 0 ∨ D = 1 ∨ 2 ≤ D by omega) with h0 | h0 | h0
    · subst h0
      have S1 := Lib.hid (SZ.out 1 rfl)
      clear SZ hD
      go_wp2_with (first
        | (go_at_call 79; refine LF.out.mono ?_; rintro e w2 ⟨rfl, hw⟩; obtain rfl := hw.symm)
        | (go_at_call 59; refine S1.out.mono ?_; rintro e w2 ⟨rfl, hw⟩; obtain rfl := hw.symm))
      go_meet
      exact ⟨rfl, rfl⟩
    · subst h0
      have S1 := Lib.hid (SZ.out 1 rfl)
      clear SZ hD
      go_wp2_with (first
        | (go_at_call 79; refine LF.out.mono ?_; rintro e w2 ⟨rfl, hw⟩; obtain rfl := hw.symm)
        | (go_at_call 59; refine S1.out.mono ?_; rintro e w2 ⟨rfl, hw⟩; obtain rfl := hw.symm))
      go_meet
      exact ⟨rfl, rfl⟩
    · have S1 := Lib.hid (SZ.out (D : Int) (by omega))
      have p1 : (1 : Int) ≤ (D : Int) := by omega
      have p2 : ¬ (D : Int) ≤ 1 := by omega
      have p3 : (1 : Int) < (D : Int) := by omega
      have p4 : ¬ (D : Int) < 1 := by omega
      have p5 : IntKind.i64.wrap (D : Int) = (D : Int) := IntWalk.i64_in _ (by omega)
      clear SZ hD
      go_wp2_with (first
        | (go_at_call 79; refine LF.out.mono ?_; rintro e w2 ⟨rfl, hw⟩; obtain rfl := hw.symm)
        | (go_at_call 59; refine S1.out.mono ?_; rintro e w2 ⟨rfl, hw⟩; obtain rfl := hw.symm))
      go_meet
      exact ⟨rfl, rfl⟩
  case rest =>
  obtain ⟨rfl, hwc⟩ := hcut
  subst hwc
  clear SZ htd hD
  by_cases hz : W0 = 0
  · subst hz
    rw [if_pos rfl] at EV EO
    go_wp2_with fail
    go_ret
    exact ⟨octC.ret_int EV.out.symm, Fr.refl _, fun _ => ⟨A, n, c, by rw [EO.out]; exact HS.out⟩⟩
  have z1 : ((W0 : Int) == 0) = false := beq_eq_false_iff_ne.2 (by omega)
  rw [if_neg hz] at EV EO
  by_cases hn2 : W0 ≠ 2 + L
  · have z2 : ((W0 : Int) != 2 + (L : Int)) = true := by simp; omega
    have z3 : ((W0 : Int) == 2 + (L : Int)) = false := beq_eq_false_iff_ne.2 (by omega)
    rw [if_pos hn2] at EV
    clear hz
    go_wp2_with (first
        | (go_at_call 79; refine LF.out.mono ?_; rintro e w2 ⟨rfl, hw⟩; obtain rfl := hw.symm))
    go_ret
    exact ⟨octC.ret_int EV.out.symm, Fr.refl _, fun h => by rw [EV.out] at h; cases h⟩
  have z2 : W0 = 2 + L := by omega
  have z3 : ((W0 : Int) != 2 + (L : Int)) = false := by simp; omega
  rw [if_neg hn2] at EV
  obtain ⟨hb, hhb⟩ : ∃ hb, hasB o k = hb := ⟨_, rfl⟩
  rw [hhb] at EV HAS
  have HHB0 := Lib.hid hhb
  have HW2 := Lib.hid (show wantN k b.length = 2 + b.length by
    have e := EW.out
    have e2 := HL.out
    unfold wantN
    rw [e, ← e2]; exact z2)
  clear hn2 hz hhb z2
  have IC2 := IC
  cases hb
  · have HHB := Lib.hid HHB0.out
    go_upto_region 8 with (first
        | (go_at_call 79; refine LF.out.mono ?_; rintro e w2 ⟨rfl, hw⟩; obtain rfl := hw.symm)
        | (refine wpList_load_row rfl 31 (.tmp 25) rfl g rfl _ _ _ _ RW.out Tryd.underlying31 rfl IC.out ?_)
        | (go_at_call 58; refine HAS.out.mono ?_; rintro e w3 ⟨rfl, B3⟩
           have HB3 := Lib.hid B3
           have S3 := Lib.hid (HS.out.bel B3)
           have R3 := Lib.hid (HRD.out.below B3)
           clear B3))
    have AD3 := Lib.hid (add_any k S3.out R3.out HGQ.out HBG.out HNE.out HY.out HW2.out H38.out HHB.out)
    go_wp2_with (first
        | (go_at_call 101; refine AD3.out.mono ?_; rintro e w4 ⟨rfl, F4, A4, n4, c4, S4⟩
           have HF4 := Lib.hid ((Fr.below HB3.out).trans F4)
           have HS4 := Lib.hid S4
           clear F4 S4))
    go_ret
    exact ⟨octC.ret_int EV.out.symm, HF4.out, fun _ => ⟨A4, n4, c4, by rw [EO.out]; exact HS4.out⟩⟩
  · go_wp2_with (first
        | (go_at_call 79; refine LF.out.mono ?_; rintro e w2 ⟨rfl, hw⟩; obtain rfl := hw.symm)
        | (refine wpList_load_row rfl 31 (.tmp 25) rfl g rfl _ _ _ _ RW.out Tryd.underlying31 rfl IC.out ?_)
        | (go_at_call 58; refine HAS.out.mono ?_; rintro e w3 ⟨rfl, B3⟩
           have HB3 := Lib.hid B3
           clear B3))
    go_ret
    exact ⟨octC.ret_int EV.out.symm, Fr.below HB3.out, fun h => by rw [EV.out] at h; cases h⟩
end Go.Proofs.YtniimgbljhmcoaaDoor.opC

/-
  Options are read: the program's.
-/
namespace Go.Proofs.YtniimgbljhmcoaaDoor.opC
open Go.ChangeShapes Go.WideShapes Go.ChangeAt Go.RowKit
open Go.Proofs.YtniimgbljhmcoaaDoor.memC Go.Proofs.YtniimgbljhmcoaaDoor.genC Go.Proofs.YtniimgbljhmcoaaDoor.butC Go.Proofs.YtniimgbljhmcoaaDoor.freeC Go.Proofs.YtniimgbljhmcoaaDoor.adC
open Go.Proofs.YtniimgbljhmcoaaDoor.octC (Fr Rd RdD stopped getZ)
set_option linter.unusedVariables false
def ReadR (w : World) (p : Nat) (P : Int × Opt) (e : Ending) (w' : World) : Prop :=
  (P.1 = 4 ∧ e = stopped ∧ Fr (· = p) w w') ∨ (P.1 ≠ 4 ∧ ∃ A n c, e = .returned (.tuple #[.agg (optV P.2 A n c), .int .i64 P.1]) ∧ P.2.sk.length = n ∧ OwnP w' w.heap.size (.slice A n c) P.2.sk ∧ Fr (· = p) w w')
theorem rd_ofD {w : World} {p B : Nat} {bs : List Int} (h : RdD w p B bs) : Rd w p bs := by
  obtain ⟨A, n, c, h1, h2, h3, N, h4, h5, h6⟩ := h
  exact ⟨A, n, c, h1, h2, h3, N.more h6, h4, h5⟩
theorem rdD_of {w : World} {p : Nat} {bs : List Int} (h : Rd w p bs) : RdD w p p bs := by
  obtain ⟨A, n, c, h1, h2, h3, N, h4, h5⟩ := h
  exact ⟨A, n, c, h1, h2, h3, N, h4, h5, Nat.le_refl _⟩
theorem rdD_fr {S : Nat → Prop} {w w' : World} {p B : Nat} {bs : List Int} (h : RdD w p B bs) (F : Fr S w w') (hS : ∀ k, S k → B ≤ k ∧ k ≠ p) : RdD w' p B bs :=
  h.keep F.size (F.block _ h.lt fun e => (hS _ e).2 rfl) fun k hk => F.block _ (by have := h.lt; have := h.le; omega) fun e => by have := (hS _ e).1; omega
theorem St.notp {w0 w : World} {g p : Nat} {o : Opt} {A : Option Addr} {n c : Nat} (h : St w g o A n c) (hp : p < g) : ∀ k, (Value.slice A n c).ownBlock = some k → ¬ k = p := fun k hk e => by
  have := (h.own.blk k hk).1
  omega
theorem fr_less {S T : Nat → Prop} {w0 w w' : World} (h : Fr S w0 w) (F : Fr T w w') (hT : ∀ k, k < w0.heap.size → T k → S k) : Fr S w0 w' :=
  ⟨F.os.trans h.os, F.tape.trans h.tape, F.output.trans h.output, Nat.le_trans h.size F.size, fun k hk hn => (F.block k (Nat.lt_of_lt_of_le hk h.size) fun e => hn (hT k hk e)).trans (h.block k hk hn)⟩
theorem fr_row {S : Nat → Prop} {w w' : World} (h : Fr S w w') {r : Nat} (hr : w.heap.size ≤ r) (cs : Array Value) : Fr S w (w'.setRow r cs) :=
  ⟨h.os, h.tape, h.output, by simpa using h.size, fun k hk hn => by rw [setRow_other _ _ _ _ (by omega)]; exact h.block k hk hn⟩
set_option maxRecDepth 100000 in
set_option maxHeartbeats 4000000 in
theorem read_any (p B : Nat) (bs : List Int) (w : World) (hR : RdD w p B bs) (hm : bs.length ≤ 40) (hy : ∀ x ∈ bs, Byte x) : Calls Tryd.prog 94 #[.pointer (some ⟨p, 0, none⟩)] w (ReadR w p (psA bs zOpt)) := by
  have hzv := zeroOpt
  obtain ⟨W1, hW1⟩ : ∃ W, W = w.alloc (.cells (optV zOpt none 0 0) 31) := ⟨_, rfl⟩
  obtain ⟨W, hW⟩ : ∃ W, W = W1.alloc (.cells (optV zOpt none 0 0) 31) := ⟨_, rfl⟩
  have e1 : W1.heap.size = w.heap.size + 1 := by rw [hW1]; exact alloc_size _ _
  have BW1 : Below w.heap.size w W1 := by rw [hW1]; exact alloc_below _ _
  have BW2 : Below W1.heap.size W1 W := by rw [hW]; exact alloc_below _ _
  have BW : Below w.heap.size w W := BW1.trans (BW2.mono BW1.size)
  obtain ⟨Z, hZ⟩ : ∃ Z, Z = optV zOpt none 0 0 := ⟨_, rfl⟩
  have RC := Lib.hid (show W.heap[w.heap.size]? = some (.cells Z 31 (0, 0)) by rw [BW2.block _ (by omega), hW1, hZ]; exact heap_alloc_new _ _)
  have S0 := Lib.hid (show St W (w.heap.size + 1) zOpt none 0 0 from ⟨by unfold OptAt; rw [hW, ← e1]; exact heap_alloc_new _ _, rfl, rfl, OwnP.nil _ _, fun _ => ⟨rfl, rfl, rfl⟩⟩)
  have R0 := Lib.hid (hR.below BW)
  have F0 := Lib.hid (Fr.below (S := (· = p)) BW)
  have HPW := Lib.hid (show p < w.heap.size from hR.lt)
  have HBP := Lib.hid hR.le
  have HM := Lib.hid hm
  have HY := Lib.hid hy
  have IZ := Lib.hid (optC zOpt_ok.lm none 0 0).info
  have OZ := Lib.hid (opt_one zOpt none 0 0)
  have EB := Lib.hid zOpt_built
  have SZ := Lib.hid (optC zOpt_ok.lm none 0 0).size
  have HZ := Lib.hid hZ
  rw [← hZ] at IZ OZ EB SZ hzv hW hW1
  obtain ⟨P, hP⟩ : ∃ P, P = psA bs zOpt := ⟨_, rfl⟩
  rw [← hP]
  have EP := Lib.hid hP.symm
  clear hR hm hy e1 BW1 BW2 BW hZ hP
  go_enter Tryd.func94, Tryd.ntmps94
  go_upto_region 1 with fail
  have HS1 := Lib.hid (show W1.heap.size = w.heap.size + 1 by rw [hW1]; exact alloc_size _ _)
  rw [← hW1]
  clear hW1
  go_upto_region 2 with fail
  rw [← hW, HS1.out]
  clear hW HS1 hzv
  go_loopw [] (fun wr => ∃ (b : List Int) (o : Opt) (A : Option Addr) (n c : Nat), RdD wr p B b ∧ St wr (w.heap.size + 1) o A n c ∧ wr.heap[w.heap.size]? = some (.cells Z 31 (0, 0)) ∧ psA b o = P ∧ (∀ x ∈ b, Byte x) ∧ b.length ≤ 40 ∧ Fr (· = p) w wr) (fun wr => lenOfV ((wr.cell? ⟨p, 0, none⟩).getD undef))
  case atStart => exact ⟨bs, zOpt, none, 0, 0, R0.out, S0.out, RC.out, EP.out, HY.out, HM.out, F0.out⟩
  case round =>
    obtain ⟨b, o, A, n, c, r1, s1, z1, ep, y1, m1, f1⟩ := hrel
    have RR := Lib.hid r1
    have SS := Lib.hid s1
    have ZZ := Lib.hid z1
    have PP := Lib.hid ep
    have FF := Lib.hid f1
    have LF := Lib.hid (left_any r1)
    have NP := Lib.hid (St.notp (w0 := w) s1 (show p < w.heap.size + 1 by have := HPW.out; omega))
    rcases b with _ | ⟨k, r⟩
    · have LF := Lib.hid (show Calls Tryd.prog 79 #[.pointer (some ⟨p, 0, none⟩)] wr fun e w' => e = .returned (.int .i64 0) ∧ w' = wr from LF.out)
      have EQ := Lib.hid (show P = (0, o) by rw [← PP.out]; rfl)
      clear r1 s1 z1 ep y1 m1 f1
      have MO := Lib.hid SS.out.mac
      have RO := Lib.hid (show wr.heap[w.heap.size + 1]? = some (.cells (optV o A n c) 31 (0, 0)) from SS.out.row)
      have IOX := Lib.hid (optC MO.out A n c).info
      have OO := Lib.hid (opt_one o A n c)
      have SO := Lib.hid (show Z.size = (optV o A n c).size by rw [SZ.out, (optC MO.out A n c).size])
      generalize hCo : optV o A n c = Co at *
      have ECo := Lib.hid hCo
      clear hCo
      go_wp2_with (first
        | (go_at_call 79; refine LF.out.mono ?_; rintro e w2 ⟨rfl, hw⟩; obtain rfl := hw.symm)
        | (refine wpList_load_row rfl 31 (.tmp 4) rfl (w.heap.size + 1) rfl _ _ _ _ RO.out Tryd.underlying31 rfl IOX.out ?_)
        | (refine wpList_store_row rfl 31 (.tmp 2) (.tmp 33) rfl w.heap.size Co rfl rfl _ _ ZZ.out IOX.out SO.out OO.out ?_))
      refine bodyPost_ret (v := .tuple #[.agg Co, .int .i64 0]) (adC.results_cell_tmp Tryd.results94 _ _ w.heap.size _ _ _ _ _ (by rfl) (setRow_heap _ _ _ _ _ _ ZZ.out) Tryd.underlying31 rfl IOX.out (by rfl)) rfl ?_
      refine .inr ⟨by rw [EQ.out]; show (0 : Int) ≠ 4; decide, A, n, c, by rw [EQ.out, ECo.out], by rw [EQ.out]; exact SS.out.len, ?_, fr_row FF.out (Nat.le_refl _) _⟩
      rw [EQ.out]
      exact OwnP.less (OwnP.keep (ps := o.sk) SS.out.own fun j h1 h2 => setRow_other _ _ _ _ (by omega)) (by omega)
    have hyk : Byte k := y1 k (List.mem_cons_self ..)
    have hyr : ∀ x ∈ r, Byte x := fun x hx => y1 x (List.mem_cons_of_mem _ hx)
    have hlr : r.length + 1 ≤ 40 := by simpa using m1
    have LF := Lib.hid (show Calls Tryd.prog 79 #[.pointer (some ⟨p, 0, none⟩)] wr fun e w' => e = .returned (.int .i64 ((r.length + 1 : Nat) : Int)) ∧ w' = wr from LF.out)
    have O1 := Lib.hid (show Calls Tryd.prog 98 #[.pointer (some ⟨p, 0, none⟩)] wr fun e w' => e = .returned (.int .u8 k) ∧ RdD w' p B r ∧ Fr (· = p) wr w' from octet_ok p B (k :: r) wr r1 (by simp) (by simp; omega) y1)
    obtain ⟨l, hl⟩ : ∃ l, l = r.length := ⟨_, rfl⟩
    have HL := Lib.hid hl
    rw [← hl] at LF hlr
    have q1 : (0 : Int) < ((l + 1 : Nat) : Int) := by omega
    have q2 : 0 < l + 1 := by omega
    have HLR := Lib.hid hlr
    have HYR := Lib.hid hyr
    have HYK := Lib.hid hyk
    clear r1 s1 z1 ep y1 m1 f1 hl hlr hyr hyk
    go_upto_region 4 with (first
      | (go_at_call 79; refine LF.out.mono ?_; rintro e w2 ⟨rfl, hw⟩; obtain rfl := hw.symm)
      | (go_at_call 98; refine O1.out.mono ?_; rintro e w2 ⟨rfl, r2, f2⟩
         have R2 := Lib.hid r2
         have F2 := Lib.hid (fr_less FF.out f2 (fun k _ h => h))
         have S2 := Lib.hid (SS.out.fr f2 (show ¬ w.heap.size + 1 = p by have := HPW.out; omega) NP.out)
         have Z2 := Lib.hid (f2.row ZZ.out (show ¬ w.heap.size = p by have := HPW.out; omega))
         clear r2 f2))
    clear q1 q2 LF O1
    by_cases h0 : k = 0
    · subst h0
      have EQ := Lib.hid (show P = (0, o) by rw [← PP.out]; rfl)
      have MO := Lib.hid S2.out.mac
      have RO := Lib.hid (show w2.heap[w.heap.size + 1]? = some (.cells (optV o A n c) 31 (0, 0)) from S2.out.row)
      have IOX := Lib.hid (optC MO.out A n c).info
      have OO := Lib.hid (opt_one o A n c)
      have SO := Lib.hid (show Z.size = (optV o A n c).size by rw [SZ.out, (optC MO.out A n c).size])
      generalize hCo : optV o A n c = Co at *
      have ECo := Lib.hid hCo
      clear hCo
      go_wp2_with (first
        | (refine wpList_load_row rfl 31 (.tmp 4) rfl (w.heap.size + 1) rfl _ _ _ _ RO.out Tryd.underlying31 rfl IOX.out ?_)
        | (refine wpList_store_row rfl 31 (.tmp 2) (.tmp 33) rfl w.heap.size Co rfl rfl _ _ Z2.out IOX.out SO.out OO.out ?_))
      refine bodyPost_ret (v := .tuple #[.agg Co, .int .i64 0]) (adC.results_cell_tmp Tryd.results94 _ _ w.heap.size _ _ _ _ _ (by rfl) (setRow_heap _ _ _ _ _ _ Z2.out) Tryd.underlying31 rfl IOX.out (by rfl)) rfl ?_
      refine .inr ⟨by rw [EQ.out]; show (0 : Int) ≠ 4; decide, A, n, c, by rw [EQ.out, ECo.out], by rw [EQ.out]; exact S2.out.len, ?_, fr_row F2.out (Nat.le_refl _) _⟩
      rw [EQ.out]
      exact OwnP.less (OwnP.keep (ps := o.sk) S2.out.own fun j h1 h2 => setRow_other _ _ _ _ (by omega)) (by omega)
    have g0 : (k == 0) = false := beq_eq_false_iff_ne.2 h0
    by_cases h1 : k = 1
    · subst h1
      have EQ := Lib.hid (show psA r o = P by rw [← PP.out]; rfl)
      clear h0
      go_wp2_with fail
      go_roundw
      case rel => exact ⟨r, o, A, n, c, R2.out, S2.out, Z2.out, EQ.out, HYR.out, by have := HL.out; have := HLR.out; omega, F2.out⟩
      case measure =>
        obtain ⟨Aa, na, ca, ha, _, _, Na, _⟩ := R2.out
        obtain ⟨Ab, nb, cb, hb, _, _, Nb, _⟩ := RR.out
        have la := Na.len
        have lb := Nb.len
        rw [List.length_cons] at lb
        rw [ha, hb]
        simp only [Option.getD_some, lenOfV]
        omega
    have g1 : (k == 1) = false := beq_eq_false_iff_ne.2 h1
    have NP2 := Lib.hid (St.notp (w0 := w) S2.out (show p < w.heap.size + 1 by have := HPW.out; omega))
    rcases r with _ | ⟨d, t⟩
    · have OS := Lib.hid (octet_stop p [] w2 (rd_ofD R2.out) (by simp))
      have EQ := Lib.hid (show P = (4, zOpt) by rw [← PP.out]; exact psA_one h0 h1 o)
      clear h0 h1
      go_wp2_with (first
        | (go_at_call 98; refine OS.out.mono ?_; rintro e w3 ⟨he, rfl⟩; rw [octC.stopped_eq] at he; subst he))
      exact ⟨rfl, .inl ⟨by rw [EQ.out], rfl, F2.out⟩⟩
    have hyd : Byte d := HYR.out d (List.mem_cons_self ..)
    have hyt : ∀ x ∈ t, Byte x := fun x hx => HYR.out x (List.mem_cons_of_mem _ hx)
    have hlt : t.length + 2 ≤ 40 := by have h1 := HL.out; have h2 := HLR.out; rw [List.length_cons] at h1; omega
    have O2 := Lib.hid (show Calls Tryd.prog 98 #[.pointer (some ⟨p, 0, none⟩)] w2 fun e w' => e = .returned (.int .u8 d) ∧ RdD w' p B t ∧ Fr (· = p) w2 w' from octet_ok p B (d :: t) w2 R2.out (by simp) (by simp; omega) HYR.out)
    have PM := Lib.hid (show P = if d < 2 then (3, zOpt) else if t.length < d.toNat - 2 then (4, zOpt) else if takeE o k (t.take (d.toNat - 2)) = 0 then psA (t.drop (d.toNat - 2)) (takeO o k (t.take (d.toNat - 2))) else (takeE o k (t.take (d.toNat - 2)), zOpt) by rw [← PP.out]; exact psA_more h0 h1 o)
    unfold Byte at hyd
    have wd : IntKind.i64.wrap d = d := IntWalk.i64_in _ (by omega)
    have HYT := Lib.hid hyt
    have HLT := Lib.hid hlt
    have LB0 := Lib.hid (show (k :: d :: t).length = t.length + 2 from rfl)
    have HYD := Lib.hid hyd
    clear h0 h1 hyt hlt hyd
    go_upto_region 7 with (first
      | (go_at_call 98; refine O2.out.mono ?_; rintro e w3 ⟨rfl, r3, f3⟩
         have R3 := Lib.hid r3
         have F3 := Lib.hid (fr_less F2.out f3 (fun k _ h => h))
         have S3 := Lib.hid (S2.out.fr f3 (show ¬ w.heap.size + 1 = p by have := HPW.out; omega) NP2.out)
         have Z3 := Lib.hid (f3.row Z2.out (show ¬ w.heap.size = p by have := HPW.out; omega))
         clear r3 f3))
    clear wd O2
    by_cases hd2 : d < 2
    · have EQ := Lib.hid (show P = (3, zOpt) by rw [PM.out, if_pos hd2])
      have E3 := Lib.hid (show (3 : Int) ≠ 4 by decide)
      go_wp2_with (first
        | (with_reducible refine at_build 31 ?_; refine wpList_runG (by kernel_rfl) _ (built_run (T := 31) rfl EB.out) ?_)
        | (refine wpList_store_row rfl 31 (.tmp 2) (.tmp 22) rfl w.heap.size Z rfl rfl _ _ Z3.out IZ.out rfl OZ.out ?_))
      refine bodyPost_ret (v := .tuple #[.agg Z, .int .i64 3]) (adC.results_cell_tmp Tryd.results94 _ _ w.heap.size _ _ _ _ _ (by rfl) (setRow_heap _ _ _ _ _ _ Z3.out) Tryd.underlying31 rfl IZ.out (by rfl)) rfl ?_
      refine .inr ⟨by rw [EQ.out]; exact E3.out, none, 0, 0, by rw [EQ.out, HZ.out], by rw [EQ.out]; rfl, ?_, fr_row F3.out (Nat.le_refl _) _⟩
      rw [EQ.out]
      exact OwnP.nil _ _
    rw [if_neg hd2] at PM
    obtain ⟨s, hs⟩ : ∃ s, s = d.toNat - 2 := ⟨_, rfl⟩
    rw [← hs] at PM
    have hsz : (s : Int) = d - 2 := by have := HYD.out; omega
    have wd2 : IntKind.i64.wrap (d - 2) = d - 2 := IntWalk.i64_in _ (by have := HYD.out; omega)
    have HSZ := Lib.hid hsz
    by_cases hts : t.length < s
    · have SB := Lib.hid (octC.sub_stop p t s (d - 2) w3 (rd_ofD R3.out) hsz hts)
      have EQ := Lib.hid (show P = (4, zOpt) by rw [PM.out, if_pos hts])
      clear hs hsz hts
      go_wp2_with (first
        | (go_at_call 76; refine SB.out.mono ?_; rintro e w4 ⟨he, rfl⟩; rw [octC.stopped_eq] at he; subst he))
      exact ⟨rfl, .inl ⟨by rw [EQ.out], rfl, F3.out⟩⟩
    rw [if_neg hts] at PM
    have SB := Lib.hid (octC.sub_ok p B t s (d - 2) w3 R3.out hsz (by omega))
    have NP3 := Lib.hid (St.notp (w0 := w) S3.out (show p < w.heap.size + 1 by have := HPW.out; omega))
    unfold octC.SubR at SB
    have H3W := Lib.hid (show w.heap.size + 1 < w3.heap.size from S3.out.lt)
    have TKA := Lib.hid (fun (w' : World) (q : Nat) (S : St w' (w.heap.size + 1) o A n c) (R : RdD w' q B (t.take s)) (hq : w3.heap.size ≤ q) => take_any k S R (by have := H3W.out; omega) (by have := HPW.out; have := HBP.out; omega) (fun j hj => by
      have := (S3.out.own.blk j hj).2
      omega) (fun x hx => HYT.out x (List.mem_of_mem_take hx)) (by rw [List.length_take]; have := HLT.out; omega) HYK.out)
    unfold TakeR at TKA
    obtain ⟨te, hte⟩ : ∃ te, te = takeE o k (t.take s) := ⟨_, rfl⟩
    have HTE := Lib.hid hte
    have T7 := Lib.hid (show te = 0 ∨ te = 3 ∨ te = 7 by
      rw [hte]; unfold takeE
      split
      · exact .inl rfl
      · split
        · exact .inr (.inl rfl)
        · split
          · exact .inr (.inr rfl)
          · exact .inl rfl)
    rw [← hte] at TKA PM
    have HTS := Lib.hid (show s ≤ t.length by omega)
    clear hs hsz hts hte
    go_upto_region 10 with (first
      | (go_at_call 76; refine SB.out.mono ?_; rintro e w4 ⟨q, rfl, hq, rq, r4, f4⟩
         have S4 := Lib.hid (S3.out.fr f4 (show ¬ w.heap.size + 1 = p by have := HPW.out; omega) NP3.out)
         have Z4 := Lib.hid (f4.row Z3.out (show ¬ w.heap.size = p by have := HPW.out; omega))
         have R4 := Lib.hid r4
         have F4 := Lib.hid (fr_less F3.out f4 (fun k _ h => h))
         have HQ := Lib.hid hq
         have TK := Lib.hid (TKA.out w4 q S4.out rq hq)
         clear hq rq r4 f4)
      | (go_at_call 99; refine TK.out.mono ?_; rintro e w5 ⟨rfl, f5, s5⟩
         have Z5 := Lib.hid (f5.row Z4.out (show ¬ (w.heap.size = q ∨ w.heap.size = w.heap.size + 1) by have := HQ.out; have := H3W.out; omega))
         have R5 := Lib.hid (rdD_fr R4.out f5 (fun j hj => by have := HQ.out; have := H3W.out; have := HPW.out; have := HBP.out; have := hj; omega))
         have F5 := Lib.hid (fr_less F4.out f5 (fun j h1 h2 => by have := HQ.out; have := H3W.out; exfalso; omega))
         have S5 := Lib.hid s5
         clear f5 s5))
    clear wd2 hd2
    by_cases ht0 : te = 0
    · subst ht0
      rw [if_pos rfl] at PM
      obtain ⟨A5, n5, c5, s5⟩ := S5.out rfl
      have S6 := Lib.hid s5
      clear s5
      go_wp2_with fail
      go_roundw
      case rel => exact ⟨t.drop s, takeO o k (t.take s), A5, n5, c5, R5.out, S6.out, Z5.out, PM.out.symm, fun x hx => HYT.out x (List.mem_of_mem_drop hx), by rw [List.length_drop]; have := HLT.out; omega, F5.out⟩
      case measure =>
        obtain ⟨Aa, na, ca, ha, _, _, Na, _⟩ := R5.out
        obtain ⟨Ab, nb, cb, hb, _, _, Nb, _⟩ := RR.out
        have la := Na.len
        have lb := Nb.len
        have l0 := LB0.out
        rw [List.length_drop] at la
        rw [l0] at lb
        rw [ha, hb]
        simp only [Option.getD_some, lenOfV]
        omega
    · have g7 : (te != 0) = true := by simpa using ht0
      rw [if_neg ht0] at PM
      have EQ := PM
      have E3 := Lib.hid (show te ≠ 4 by have := T7.out; omega)
      go_wp2_with (first
        | (with_reducible refine at_build 31 ?_; refine wpList_runG (by kernel_rfl) _ (built_run (T := 31) rfl EB.out) ?_)
        | (refine wpList_store_row rfl 31 (.tmp 2) (.tmp 31) rfl w.heap.size Z rfl rfl _ _ Z5.out IZ.out rfl OZ.out ?_))
      refine bodyPost_ret (v := .tuple #[.agg Z, .int .i64 te]) (adC.results_cell_tmp Tryd.results94 _ _ w.heap.size _ _ _ _ _ (by rfl) (setRow_heap _ _ _ _ _ _ Z5.out) Tryd.underlying31 rfl IZ.out (by rfl)) rfl ?_
      refine .inr ⟨by rw [EQ.out]; exact E3.out, none, 0, 0, by rw [EQ.out, HZ.out], by rw [EQ.out]; rfl, ?_, fr_row F5.out (Nat.le_refl _) _⟩
      rw [EQ.out]
      exact OwnP.nil _ _
end Go.Proofs.YtniimgbljhmcoaaDoor.opC

/-
  The options of bytes: the program's Parse.
-/
namespace Go.Proofs.YtniimgbljhmcoaaDoor.opC
open Go.ChangeShapes Go.WideShapes Go.ChangeAt Go.RowKit
open Go.Proofs.YtniimgbljhmcoaaDoor.memC Go.Proofs.YtniimgbljhmcoaaDoor.genC Go.Proofs.YtniimgbljhmcoaaDoor.butC Go.Proofs.YtniimgbljhmcoaaDoor.freeC Go.Proofs.YtniimgbljhmcoaaDoor.adC
open Go.Proofs.YtniimgbljhmcoaaDoor.octC (Fr Rd RdD stopped getZ)
set_option linter.unusedVariables false
def psE (bs : List Int) : Int := if 40 < bs.length then 3 else if (psA bs zOpt).1 = 4 then 3 else (psA bs zOpt).1
def psO (bs : List Int) : Opt := if 40 < bs.length then zOpt else if (psA bs zOpt).1 = 4 then zOpt else (psA bs zOpt).2
theorem psA_good {bs : List Int} (hy : ∀ x ∈ bs, Byte x) (hm : bs.length ≤ 40) : ((psA bs zOpt).1 = 0 ∧ Good (psA bs zOpt).2) ∨ ((psA bs zOpt).1 ≠ 0 ∧ (psA bs zOpt).2 = zOpt) := psG_good _ bs zOpt hy hm zOpt_good
theorem ps_good {bs : List Int} (hy : ∀ x ∈ bs, Byte x) : (psE bs = 0 ∧ Good (psO bs)) ∨ (psE bs ≠ 0 ∧ psO bs = zOpt) := by
  unfold psE psO
  by_cases h : 40 < bs.length
  · rw [if_pos h, if_pos h]; exact .inr ⟨by decide, rfl⟩
  · rw [if_neg h, if_neg h]
    by_cases h4 : (psA bs zOpt).1 = 4
    · rw [if_pos h4, if_pos h4]; exact .inr ⟨by decide, rfl⟩
    · rw [if_neg h4, if_neg h4]; exact psA_good hy (by omega)
theorem good_mac {P : Int × Opt} (h : (P.1 = 0 ∧ Good P.2) ∨ (P.1 ≠ 0 ∧ P.2 = zOpt)) : P.2.mac.length = 12 := by
  rcases h with h | h
  · exact h.2.ok.lm
  · rw [h.2]; rfl
/-- options that were read, and an error -/
def PsR (w : World) (bs : List Int) (e : Ending) (w' : World) : Prop :=
  ∃ A n c, e = .returned (.tuple #[.agg (optV (psO bs) A n c), .int .i64 (psE bs)]) ∧ (psO bs).sk.length = n ∧ Prs w' w'.heap.size A n (psO bs).sk ∧ Below w.heap.size w w'
/-- .. and whose pairs are the call's own -/
def PsP (w : World) (bs : List Int) (e : Ending) (w' : World) : Prop :=
  ∃ A n c, e = .returned (.tuple #[.agg (optV (psO bs) A n c), .int .i64 (psE bs)]) ∧ (psO bs).sk.length = n ∧ OwnP w' w.heap.size (.slice A n c) (psO bs).sk ∧ Below w.heap.size w w'
theorem ent_clo (cap : Array Value) (w : World) : (callFunc 93 cap).run Tryd.prog w = .ok (.enter 93 cap) w := by go_simp
set_option maxRecDepth 100000 in
theorem clo_stop (pb bo be : Nat) (A0 : Option Addr) (n0 c0 : Nat) (bs : List Int) (w : World) (hb : w.cell? ⟨pb, 0, none⟩ = some (.slice A0 n0 c0)) (hN : Nums .u8 w w.heap.size A0 n0 bs) (hm : n0 ≤ 40) (hy : ∀ x ∈ bs, Byte x) (h4 : (psA bs zOpt).1 = 4) :
    Calls Tryd.prog 93 #[.pointer (some ⟨pb, 0, none⟩), .pointer (some ⟨bo, 0, none⟩), .pointer (some ⟨be, 0, none⟩)] w fun e w' => e = stopped ∧ Fr (fun _ => False) w w' ∧ True := by
  have RD := Lib.hid (octC.read_any A0 n0 c0 bs w hN (by omega))
  have RE := Lib.hid (fun (p : Nat) (w' : World) (h : Rd w' p bs) => (read_any p p bs w' (rdD_of h) (by rw [hN.len]; exact hm) hy).mono fun e w'' h => (show e = stopped ∧ Fr (· = p) w' w'' by
    rcases h with h | h
    · exact h.2
    · exact absurd h4 h.1))
  clear hN hm hy h4
  go_enter Tryd.func93, Tryd.ntmps93
  go_wp2_with (first
    | (go_at_call 44; (refine RD.out.mono ?_); rintro e w1 ⟨q, rfl, hq, R, B1⟩
       have R1 := Lib.hid (RE.out q w1 R)
       have HQ := Lib.hid hq
       have F1 := Lib.hid (Fr.below (S := fun _ => False) B1)
       clear R B1 hq)
    | (go_at_call 94; (refine R1.out.mono ?_); rintro e v2 ⟨he, F⟩; rw [octC.stopped_eq] at he; subst he))
  exact ⟨rfl, rfl, fr_less F1.out F (fun k hk e => by have := HQ.out; omega), trivial⟩
/-- what a reading that ends leaves -/
def CloQ (w : World) (bo be : Nat) (P : Int × Opt) (w' : World) : Prop :=
  ∃ A n c, w'.heap[bo]? = some (.cells (optV P.2 A n c) 31 (0, 0)) ∧ w'.cell? ⟨be, 0, none⟩ = some (.int .i64 P.1) ∧ P.2.sk.length = n ∧ OwnP w' w.heap.size (.slice A n c) P.2.sk
set_option maxRecDepth 100000 in
set_option maxHeartbeats 1000000 in
theorem clo_end (pb bo be : Nat) (A0 : Option Addr) (n0 c0 : Nat) (bs : List Int) (w : World) (hb : w.cell? ⟨pb, 0, none⟩ = some (.slice A0 n0 c0)) (hN : Nums .u8 w w.heap.size A0 n0 bs) (hm : n0 ≤ 40) (hy : ∀ x ∈ bs, Byte x) (h4 : (psA bs zOpt).1 ≠ 4)
    (hp : w.heap[bo]? = some (.cells (optV zOpt none 0 0) 31 (0, 0))) (ht : w.cell? ⟨be, 0, none⟩ = some (.int .i64 0)) (hz : w.frozen? ⟨be, 0, none⟩ = false) (hne : bo ≠ be) :
    Calls Tryd.prog 93 #[.pointer (some ⟨pb, 0, none⟩), .pointer (some ⟨bo, 0, none⟩), .pointer (some ⟨be, 0, none⟩)] w fun e w' => e = .returned (.tuple #[]) ∧ Fr (fun k => k = bo ∨ k = be) w w' ∧ CloQ w bo be (psA bs zOpt) w' := by
  have RD := Lib.hid (octC.read_any A0 n0 c0 bs w hN (by omega))
  have MP := Lib.hid (good_mac (psA_good hy (by rw [hN.len]; exact hm)))
  have RE := Lib.hid (fun (p : Nat) (w' : World) (h : Rd w' p bs) => (read_any p p bs w' (rdD_of h) (by rw [hN.len]; exact hm) hy).mono fun e w'' h => (show ∃ A n c, e = .returned (.tuple #[.agg (optV (psA bs zOpt).2 A n c), .int .i64 (psA bs zOpt).1]) ∧ (psA bs zOpt).2.sk.length = n ∧ OwnP w'' w'.heap.size (.slice A n c) (psA bs zOpt).2.sk ∧ Fr (· = p) w' w'' by
    rcases h with h | h
    · exact absurd h.1 h4
    · exact h.2))
  obtain ⟨P, hP⟩ : ∃ P, P = psA bs zOpt := ⟨_, rfl⟩
  rw [← hP] at RE MP ⊢
  have lp := Lib.hid (lt_of_row hp)
  have lt := Lib.hid (show be < w.heap.size from World.block_lt_of_cell? _ _ ht)
  have SZ := Lib.hid (fun A n c => (optC zOpt_ok.lm none 0 0).size.trans (optC MP.out A n c).size.symm)
  have HP0 := Lib.hid hp
  have HT := Lib.hid ht
  have HZ := Lib.hid hz
  have NE := Lib.hid hne
  unfold CloQ
  generalize optV zOpt none 0 0 = Z at *
  clear hN hm hy h4 hp ht hz hne hP
  go_enter Tryd.func93, Tryd.ntmps93
  go_wp2_with (first
    | (go_at_call 44; (refine RD.out.mono ?_); rintro e w1 ⟨q, rfl, hq, R, B1⟩
       have R1 := Lib.hid (RE.out q w1 R)
       have HQ := Lib.hid hq
       have F1 := Lib.hid (Fr.below (S := fun _ => False) B1)
       have Z1 := Lib.hid B1.size
       clear R B1 hq)
    | (go_at_call 94; (refine R1.out.mono ?_); rintro e v2 ⟨A2, n2, c2, rfl, hl2, O, F⟩
       have F0 := Lib.hid (fr_less F1.out F (fun k hk e => by have := HQ.out; omega))
       have HL2 := Lib.hid hl2
       have UP := Lib.hid (optC MP.out A2 n2 c2).info
       have SP := Lib.hid (SZ.out A2 n2 c2)
       have OP := Lib.hid (opt_one P.2 A2 n2 c2)
       generalize hC : optV P.2 A2 n2 c2 = C at *
       have EC := Lib.hid hC
       clear hC
       have RW := Lib.hid (show v2.heap[bo]? = some (.cells Z 31 (0, 0)) from F0.out.row HP0.out (fun h => h))
       have e3 : (v2.setRow bo C).heap[be]? = w.heap[be]? := (setRow_other _ _ _ _ (fun e => NE.out e.symm)).trans (F0.out.block be lt.out (fun h => h))
       have t3 : (v2.setRow bo C).cell? ⟨be, 0, none⟩ = some (.int .i64 0) := (World.cell?_of_block (w := w) e3).trans HT.out
       have z3 : (v2.setRow bo C).frozen? ⟨be, 0, none⟩ = false := (World.frozen?_of_block (w := w) e3).trans HZ.out
       have OL := Lib.hid (O.less Z1.out)
       clear O F e3 hl2)
    | (refine wpList_store_row rfl 31 (.tmp 1) (.tmp 7) rfl bo _ rfl rfl _ _ RW.out UP.out SP.out OP.out ?_))
  go_end0
  have FS : Fr (fun k => k = bo ∨ k = be) w (v2.setRow bo C) := ⟨F0.out.os, F0.out.tape, F0.out.output, by simpa using F0.out.size, fun k hk hn => (setRow_other _ _ _ _ (fun e => hn (.inl e))).trans (F0.out.block k hk (fun e => e))⟩
  refine ⟨rfl, FS.trans (octC.Fr.setCell _ (fun _ => .inr rfl) _), A2, n2, c2, ?_, by go_simp, HL2.out, ?_⟩
  · rw [Below.heap_setCell _ _ _ _ (show bo ≠ be from NE.out), EC.out]
    exact setRow_heap _ _ _ _ _ _ RW.out
  · refine OwnP.keep (ps := P.2.sk) OL.out fun k h1 h2 => ?_
    have h3 := lp.out
    have h4 := lt.out
    rw [Below.heap_setCell _ _ _ _ (show k ≠ be by omega)]
    exact setRow_other _ _ _ _ (by omega)
/-- what stands while Parse returns -/
structure PaG (w0 Wr : World) (r0 bo be : Nat) (C : Array Value) (y : Int) (A : Option Addr) (n c : Nat) (l : List (Int × Int)) (w : World) : Prop where
  bel : Below w0.heap.size Wr w
  row : w.heap[bo]? = some (.cells C 31 (0, 0))
  told : w.cell? ⟨be, 0, none⟩ = some (.int .i64 y)
  own : OwnP w (r0 + 1) (.slice A n c) l
theorem PaG.keep {w0 Wr : World} {r0 bo be : Nat} {C : Array Value} {y : Int} {A : Option Addr} {n c : Nat} {l : List (Int × Int)} {w w' : World} (h0 : w0.heap.size ≤ r0) (hw : r0 ≤ w.heap.size) (h1 : bo ≠ r0) (h2 : be ≠ r0) (hd : Below w.heap.size w w' ∨ OnlyAt r0 w w') (h : PaG w0 Wr r0 bo be C y A n c l w) : PaG w0 Wr r0 bo be C y A n c l w' :=
  ⟨keep_below hd h0 (by omega) h.bel, keep_row hd h1 h.row, (by
    rcases hd with hd | hd
    · exact (hd.cell (p := ⟨be, 0, none⟩) (World.block_lt_of_cell? _ _ h.told)).trans h.told
    · exact (World.cell?_of_block (w := w) (hd.2 be h2)).trans h.told), h.own.keep fun g g1 g2 => by
    rcases hd with hd | hd
    · exact hd.block g g2
    · exact hd.2 g (by omega)⟩
def paR (g0 : Nat) (Z T : Array Value) : Nat → (Nat → Value) → World → Prop
  | 0, _, w => w.heap[g0]? = some (.cells Z 31 (0, 0))
  | 1, _, w => w.heap[g0]? = some (.cells T 31 (0, 0))
  | _, _, _ => True
theorem paR.keep (g0 : Nat) (Z T : Array Value) (k : Nat) (us us' : Nat → Value) (w w' : World) (hb : Below w.heap.size w w') (hR : paR g0 Z T k us w) : paR g0 Z T k us' w' := by
  unfold paR at hR ⊢
  split at hR
  · show w'.heap[g0]? = _
    rw [hb.block _ (lt_of_row hR)]; exact hR
  · show w'.heap[g0]? = _
    rw [hb.block _ (lt_of_row hR)]; exact hR
  · trivial
def paV (r0 bo be : Nat) (y : Int) (C : Array Value) : Nat → Value → World → Prop
  | 0, v, _ => v = .agg C
  | 1, v, _ => v = .int .i64 y
  | 3, v, _ => v = .int .i64 y
  | _, _, _ => True
theorem paV.keep (r0 bo be : Nat) (y : Int) (C : Array Value) (i : Nat) (v : Value) (w w' : World) (hd : Below w.heap.size w w' ∨ OnlyAt r0 w w') (h : paV r0 bo be y C i v w) : paV r0 bo be y C i v w' := by
  unfold paV at h ⊢
  split at h <;> exact h
def paT : List (Option Nat) := [none, none, none, some 3, none, none, none, none, none, none, none, none, none, none, some 0, some 1]
set_option maxRecDepth 100000 in
set_option maxHeartbeats 4000000 in
theorem cparse_own (A0 : Option Addr) (n0 c0 : Nat) (bs : List Int) (w : World) (hb : Nums .u8 w w.heap.size A0 n0 bs) (hy : ∀ x ∈ bs, Byte x) (hn : n0 ≤ 9223372036854775807) :
    Calls Tryd.prog 78 #[.slice A0 n0 c0] w (PsP w bs) := by
  have hzv := zeroOpt
  have hmf : ∀ (fn : Fn) (first cap : Array Value) (w : World), (Instr.makeFunc fn first cap).run Tryd.prog w = .ok (.func fn first cap) w := fun _ _ _ _ => rfl
  obtain ⟨Z, hZ⟩ : ∃ Z, Z = optV zOpt none 0 0 := ⟨_, rfl⟩
  obtain ⟨Wa, hWa⟩ : ∃ W, W = (w.alloc (.cells #[.slice A0 n0 c0] 32)).alloc (.cells Z 31) := ⟨_, rfl⟩
  have e1 : (w.alloc (.cells #[.slice A0 n0 c0] 32)).heap.size = w.heap.size + 1 := alloc_size _ _
  have sa : Wa.heap.size = w.heap.size + 2 := by rw [hWa, alloc_size, e1]
  have Ba : Below w.heap.size w Wa := by rw [hWa]; exact ((Below.refl _ _).alloc (Nat.le_refl _) _).alloc (by simp) _
  have rb : Wa.heap[w.heap.size]? = some (.cells #[.slice A0 n0 c0] 32 (0, 0)) := by rw [hWa, Below.block (alloc_below _ _) _ (by rw [e1]; omega)]; exact heap_alloc_new w _
  obtain ⟨r0, hr0⟩ : ∃ r0, r0 = w.heap.size + 1 := ⟨_, rfl⟩
  have RA := Lib.hid (show Wa.heap[r0]? = some (.cells Z 31 (0, 0)) by rw [hr0, hWa, ← e1]; exact heap_alloc_new _ _)
  have cb : Wa.cell? ⟨w.heap.size, 0, none⟩ = some (.slice A0 n0 c0) := by rw [cell_of_row Wa w.heap.size 0 _ _ (0, 0) rb]; rfl
  have ER0 := Lib.hid hr0
  have EB := Lib.hid zOpt_built
  have IZ := Lib.hid (optC zOpt_ok.lm none 0 0).info
  have OZ := Lib.hid (opt_one zOpt none 0 0)
  have SZ := Lib.hid (optC zOpt_ok.lm none 0 0).size
  have HZ := Lib.hid hZ
  rw [← hZ] at hzv EB IZ OZ SZ
  have HBA := Lib.hid Ba
  by_cases hbig : 40 < bs.length
  · have EQE := Lib.hid (show psE bs = 3 by unfold psE; rw [if_pos hbig])
    have EQO := Lib.hid (show psO bs = zOpt by unfold psO; rw [if_pos hbig])
    have hln := hb.len
    have q1 : (40 : Int) < (n0 : Int) := by omega
    have hr1 : w.heap.size + 1 = r0 := hr0.symm
    clear hb hy hbig hln sa Ba rb hZ hr0 hmf
    go_enter Tryd.func78, Tryd.ntmps78
    go_upto_region 1 with fail
    rw [← hWa]
    try rw [e1]
    try rw [hr1]
    clear hWa hzv e1 hr1
    go_wp2_with (first
      | (with_reducible refine at_build 31 ?_; refine wpList_runG (by kernel_rfl) _ (built_run (T := 31) rfl EB.out) ?_)
      | (refine wpList_store_row rfl 31 (.tmp 2) (.tmp 9) rfl r0 Z rfl rfl _ _ RA.out IZ.out rfl OZ.out ?_))
    refine bodyPost_ret (v := .tuple #[.agg Z, .int .i64 3]) (adC.results_cell_tmp Tryd.results78 _ _ r0 _ _ _ _ _ (by rfl) (setRow_heap _ _ _ _ _ _ RA.out) Tryd.underlying31 rfl IZ.out (by rfl)) rfl ?_
    exact ⟨none, 0, 0, by rw [EQE.out, EQO.out, HZ.out], by rw [EQO.out]; rfl, by rw [EQO.out]; exact OwnP.nil _ _, setR_below HBA.out (by have := ER0.out; omega) _⟩
  have hln := hb.len
  have hn40 : n0 ≤ 40 := by omega
  have q1 : ¬ (40 : Int) < (n0 : Int) := by omega
  obtain ⟨Wc, hWc⟩ : ∃ W, W = Wa.alloc (.cells Z 31) := ⟨_, rfl⟩
  obtain ⟨Wd, hWd⟩ : ∃ W, W = Wc.alloc (.cells #[.int .i64 0] 37) := ⟨_, rfl⟩
  obtain ⟨We, hWe⟩ : ∃ W, W = Wd.alloc (.cells #[.int .i64 0] 37) := ⟨_, rfl⟩
  have Bc : Below Wa.heap.size Wa Wc := by rw [hWc]; exact alloc_below _ _
  have Bd : Below Wc.heap.size Wc Wd := by rw [hWd]; exact alloc_below _ _
  have Be : Below Wd.heap.size Wd We := by rw [hWe]; exact alloc_below _ _
  have sc : Wc.heap.size = w.heap.size + 3 := by rw [hWc, alloc_size, sa]
  have sd : Wd.heap.size = w.heap.size + 4 := by rw [hWd, alloc_size, sc]
  have se : We.heap.size = w.heap.size + 5 := by rw [hWe, alloc_size, sd]
  have Bcd : Below Wa.heap.size Wa Wd := Bc.trans (Bd.mono Bc.size)
  have Bce : Below Wa.heap.size Wa We := Bcd.trans (Be.mono Bcd.size)
  have Bwe : Below w.heap.size w We := Ba.trans (Bce.mono Ba.size)
  have Bwd : Below w.heap.size w Wd := Ba.trans (Bcd.mono Ba.size)
  obtain ⟨bo, hbo⟩ : ∃ b, b = w.heap.size + 2 := ⟨_, rfl⟩
  obtain ⟨be, hbe⟩ : ∃ b, b = w.heap.size + 3 := ⟨_, rfl⟩
  have rbo : Wd.heap[bo]? = some (.cells Z 31 (0, 0)) := by rw [Bd.block _ (by omega), hbo, ← sa, hWc]; exact heap_alloc_new _ _
  have rbe : Wd.heap[be]? = some (.cells #[.int .i64 0] 37 (0, 0)) := by rw [hbe, ← sc, hWd]; exact heap_alloc_new _ _
  have rro : Wd.heap[r0]? = some (.cells Z 31 (0, 0)) := by rw [Bcd.block _ (by omega)]; exact RA.out
  have rboe : We.heap[bo]? = some (.cells Z 31 (0, 0)) := by rw [Be.block _ (by omega)]; exact rbo
  have rbee : We.heap[be]? = some (.cells #[.int .i64 0] 37 (0, 0)) := by rw [Be.block _ (by omega)]; exact rbe
  have cte : We.cell? ⟨be, 0, none⟩ = some (.int .i64 0) := by rw [cell_of_row We be 0 _ _ (0, 0) rbee]; rfl
  have fze : We.frozen? ⟨be, 0, none⟩ = false := frozen_of_row We be 0 _ _ rbee
  have cbe : We.cell? ⟨w.heap.size, 0, none⟩ = some (.slice A0 n0 c0) := (Bce.cell (p := ⟨w.heap.size, 0, none⟩) (by rw [sa]; show w.heap.size < _; omega)).trans cb
  have hNe : Nums .u8 We We.heap.size A0 n0 bs := (hb.below Bwe).more Bwe.size
  by_cases h4 : (psA bs zOpt).1 = 4
  · have EQE := Lib.hid (show psE bs = 3 by unfold psE; rw [if_neg hbig, if_pos h4])
    have EQO := Lib.hid (show psO bs = zOpt by unfold psO; rw [if_neg hbig, if_pos h4])
    have T := Lib.hid ((octC.try_halt 93 #[.pointer (some ⟨w.heap.size, 0, none⟩), .pointer (some ⟨bo, 0, none⟩), .pointer (some ⟨be, 0, none⟩)] Wd (fun _ => False) (fun _ => True) (fun _ h => h.elim) (ent_clo _) (fun _ _ _ _ => trivial) (by rw [← hWe]; exact clo_stop w.heap.size bo be A0 n0 c0 bs We cbe hNe hn40 hy h4)))
    have BWD := Lib.hid Bwd
    have RRO := Lib.hid rro
    have hs2 : Wa.heap.size = bo := sa.trans hbo.symm
    have hs3 : Wc.heap.size = be := sc.trans hbe.symm
    have hr1 : w.heap.size + 1 = r0 := hr0.symm
    clear hb hy hbig hln hn40 sa Ba rb hZ hr0 Bc Bd Be sc sd se Bcd Bce Bwe Bwd hbo hbe rbo rbe rro rboe rbee cte fze cbe hNe h4 hWe
    go_enter Tryd.func78, Tryd.ntmps78
    go_upto_region 1 with fail
    rw [← hWa]
    try rw [e1]
    try rw [hr1]
    clear hWa e1 hr1
    go_upto_region 4 with fail
    rw [← hWc]
    try rw [hs2]
    clear hWc hs2
    go_upto_region 5 with fail
    rw [← hWd]
    try rw [hs3]
    clear hWd hs3 hzv
    go_upto_region 6 with (first
      | (go_at_call 41; (refine T.out.mono ?_); rintro e Wr ⟨rfl, F, _⟩
         have BEL := Lib.hid (BWD.out.trans ((show Below Wd.heap.size Wd Wr from ⟨F.os, F.tape, F.output, F.size, fun k hk => F.block k hk (fun h => h)⟩).mono BWD.out.size))
         have RROW := Lib.hid (F.row RRO.out (fun h => h))
         clear F))
    go_wp2_with (first
      | (with_reducible refine at_build 31 ?_; refine wpList_runG (by kernel_rfl) _ (built_run (T := 31) rfl EB.out) ?_)
      | (refine wpList_store_row rfl 31 (.tmp 2) (.tmp 13) rfl r0 Z rfl rfl _ _ RROW.out IZ.out rfl OZ.out ?_))
    refine bodyPost_ret (v := .tuple #[.agg Z, .int .i64 3]) (adC.results_cell_tmp Tryd.results78 _ _ r0 _ _ _ _ _ (by rfl) (setRow_heap _ _ _ _ _ _ RROW.out) Tryd.underlying31 rfl IZ.out (by rfl)) rfl ?_
    exact ⟨none, 0, 0, by rw [EQE.out, EQO.out, HZ.out], by rw [EQO.out]; rfl, by rw [EQO.out]; exact OwnP.nil _ _, setR_below BEL.out (by have := ER0.out; omega) _⟩
  have EQE := Lib.hid (show psE bs = (psA bs zOpt).1 by unfold psE; rw [if_neg hbig, if_neg h4])
  have EQO := Lib.hid (show psO bs = (psA bs zOpt).2 by unfold psO; rw [if_neg hbig, if_neg h4])
  have MP := Lib.hid (good_mac (psA_good hy (by rw [hb.len]; exact hn40)))
  have hke : We.cell? ⟨Wd.heap.size, 0, none⟩ = some (.int .i64 0) := by rw [hWe, cell_of_row _ _ 0 _ _ (0, 0) (heap_alloc_new _ _)]; rfl
  have hkf : We.frozen? ⟨Wd.heap.size, 0, none⟩ = false := by rw [hWe]; go_simp
  have hCL := clo_end w.heap.size bo be A0 n0 c0 bs We cbe hNe hn40 hy h4 (by rw [← hZ]; exact rboe) cte fze (by omega)
  have hWe2 := hWe
  rw [hWe] at hCL
  have hsw : We.heap.size = Wd.heap.size + 1 := by omega
  have T := Lib.hid ((octC.try_ok 93 #[.pointer (some ⟨w.heap.size, 0, none⟩), .pointer (some ⟨bo, 0, none⟩), .pointer (some ⟨be, 0, none⟩)] Wd _ (ent_clo _) hCL fun w' ⟨F, _⟩ => by
    rw [← hWe] at F
    exact ⟨(F.cell (a := ⟨Wd.heap.size, 0, none⟩) (show Wd.heap.size < We.heap.size by omega) (show ¬ (Wd.heap.size = bo ∨ Wd.heap.size = be) by omega)).trans hke, (F.frozen (a := ⟨Wd.heap.size, 0, none⟩) (show Wd.heap.size < We.heap.size by omega) (show ¬ (Wd.heap.size = bo ∨ Wd.heap.size = be) by omega)).trans hkf⟩).mono fun e w' h => (show e = .returned (.int .i64 0) ∧ ∃ A n c, w'.heap[r0]? = some (.cells Z 31 (0, 0)) ∧ Below w.heap.size w w' ∧ (psA bs zOpt).2.sk.length = n ∧ r0 < w'.heap.size ∧ PaG w w' r0 bo be (optV (psA bs zOpt).2 A n c) (psA bs zOpt).1 A n c (psA bs zOpt).2.sk w' by
    obtain ⟨rfl, w1, ⟨F, A, n, c, h1, h2, h3, h5⟩, rfl⟩ := h
    rw [← hWe] at F h5
    have hs : ∀ k, k ≠ Wd.heap.size → (w1.setCell ⟨Wd.heap.size, 0, none⟩ (.int .i64 0)).heap[k]? = w1.heap[k]? := fun k hk => Below.heap_setCell _ _ _ _ hk
    have hz : (w1.setCell ⟨Wd.heap.size, 0, none⟩ (.int .i64 0)).heap.size = w1.heap.size := by simp [World.setCell]
    have hsz := F.size
    refine ⟨rfl, A, n, c, ?_, ⟨F.os.trans Bwe.os, F.tape.trans Bwe.tape, F.output.trans Bwe.output, by rw [hz]; exact Nat.le_trans Bwe.size F.size, fun k hk => ?_⟩, h3, by rw [hz]; omega, ⟨Below.refl _ _, ?_, ?_, ?_⟩⟩
    · rw [hs _ (by omega), F.block _ (by omega) (by omega), Be.block _ (by omega)]; exact rro
    · rw [hs k (by omega), F.block k (by omega) (by omega)]
      exact Bwe.block k hk
    · rw [hs _ (by omega)]; exact h1
    · exact (World.cell?_of_block (w := w1) (hs be (by omega))).trans h2
    · exact OwnP.less (OwnP.keep (ps := (psA bs zOpt).2.sk) h5 fun g g1 g2 => hs g (by omega)) (by omega)))
  have N1 := Lib.hid (show bo ≠ r0 by omega)
  have N2 := Lib.hid (show be ≠ r0 by omega)
  have L0 := Lib.hid (show w.heap.size ≤ r0 by omega)
  have hs2 : Wa.heap.size = bo := sa.trans hbo.symm
  have hs3 : Wc.heap.size = be := sc.trans hbe.symm
  have hr1 : w.heap.size + 1 = r0 := hr0.symm
  unfold PsP
  rw [EQE.out, EQO.out]
  obtain ⟨P, hP⟩ : ∃ P, P = psA bs zOpt := ⟨_, rfl⟩
  rw [← hP] at T MP ⊢
  clear hb hy hbig hln hn40 sa Ba rb hZ hr0 Bc Bd Be sc sd se Bcd Bce Bwe Bwd hbo hbe rbo rbe rro rboe rbee cte fze cbe hNe h4 hWe hke hkf hCL hWe2 hsw EQE EQO hP
  go_enter Tryd.func78, Tryd.ntmps78
  go_upto_region 1 with fail
  rw [← hWa]
  try rw [e1]
  try rw [hr1]
  clear hWa e1 hr1
  go_upto_region 4 with fail
  rw [← hWc]
  try rw [hs2]
  clear hWc hs2
  go_upto_region 5 with fail
  rw [← hWd]
  try rw [hs3]
  clear hWd hs3 hzv
  go_upto_region 7 with (first
    | (go_at_call 41; (refine T.out.mono ?_); rintro e Wr ⟨rfl, A, n, c, R0, BR, hln, hlr, G0⟩
       have HR0 := Lib.hid R0
       have HBR := Lib.hid BR
       have HLN := Lib.hid hln
       have LR0 := Lib.hid hlr
       have HG := Lib.hid G0
       clear R0 BR hln hlr G0))
  have UP := Lib.hid (optC MP.out A n c).info
  have SP := Lib.hid (show Z.size = (optV P.2 A n c).size by rw [SZ.out, (optC MP.out A n c).size])
  have OP := Lib.hid (opt_one P.2 A n c)
  clear T hmf q1 cb
  obtain ⟨y, hy⟩ : ∃ y, y = P.1 := ⟨_, rfl⟩
  obtain ⟨l, hl0⟩ : ∃ l, l = P.2.sk := ⟨_, rfl⟩
  have FIN := Lib.hid (fun w2 (h : PaG w Wr r0 bo be (optV P.2 A n c) y A n c l w2) => (show ∃ A' n' c', Ending.returned (.tuple #[.agg (optV P.2 A n c), .int .i64 y]) = .returned (.tuple #[.agg (optV P.2 A' n' c'), .int .i64 P.1]) ∧ P.2.sk.length = n' ∧ OwnP w2 w.heap.size (.slice A' n' c') P.2.sk ∧ Below w.heap.size w w2 from ⟨A, n, c, by rw [hy], HLN.out, by rw [← hl0]; exact OwnP.less h.own (by have := L0.out; omega), HBR.out.trans h.bel⟩))
  rw [← hy, ← hl0] at HG
  generalize hC : optV P.2 A n c = C at *
  clear hC hy hl0
  refine with_act fun a0 ha0 => ?_
  have hl : paT.length = a0.tmps.size := by rw [ha0]; rfl
  have k2 : a0.tmps[2]?.getD undef = .pointer (some ⟨r0, 0, none⟩) := by rw [ha0]; rfl
  have k4 : a0.tmps[4]?.getD undef = .pointer (some ⟨bo, 0, none⟩) := by rw [ha0]; rfl
  have k5 : a0.tmps[5]?.getD undef = .pointer (some ⟨be, 0, none⟩) := by rw [ha0]; rfl
  refine wp_region_chd (by kernel_rfl) paT (by kernel_rfl) (by kernel_rfl) hl (fun i => if i = 3 then .int .i64 0 else undef) (by rw [ha0]; rfl) (r0) (OnlyAt r0) [2] (by kernel_rfl) (by decide) (by decide) (fun w' => PaG w Wr r0 bo be C y A n c l w' ∧ r0 < w'.heap.size) (paV r0 bo be y C) (paR r0 Z C) (Nat.le_of_lt LR0.out) ⟨HG.out.keep L0.out (Nat.le_of_lt LR0.out) N1.out N2.out (.inl (Below.refl _ _).drew), LR0.out⟩ HR0.out (fun w1 w2 hb hd h => ⟨h.1.keep L0.out (Nat.le_of_lt h.2) N1.out N2.out hd, by rcases hd with hd | hd; exact Nat.lt_of_lt_of_le h.2 hd.size; exact Nat.lt_of_lt_of_le h.2 hd.1.size⟩) (fun i v w w' _ hd h => paV.keep _ _ _ _ _ i v w w' hd h) (fun k us us' w w' _ _ hb hR => paR.keep _ _ _ k us us' w w' hb hR) ⟨?_, ?_, ?_, ?_, trivial⟩ ?_
  · refine stepD_val [] (by kernel_rfl) (by decide) (by decide) rfl fun us w' hB hG hV => ?_
    have o4 := (frame_old2 (us := us) (a := a0) (show (paT[4]?).join = none from rfl)).trans k4
    have hg1 := hG.1.row
    generalize frame paT a0 us = fr at *
    exact load_C 31 4 rfl (bo) o4 _ _ (0, 0) _ hg1 Tryd.underlying31 rfl UP.out rfl
  · refine stepD_val [] (by kernel_rfl) (by decide) (by decide) rfl fun us w' hB hG hV => ?_
    have o5 := (frame_old2 (us := us) (a := a0) (show (paT[5]?).join = none from rfl)).trans k5
    have hc := hG.1.told
    generalize frame paT a0 us = fr at *
    exact val_C (v := .int .i64 y) (w' := w') (by go_simp) (Below.refl _ _) rfl
  · refine stepD_chain 0 rfl (by decide) [0] (by kernel_rfl) (by decide) rfl fun us w' hB hG hV hR => ?_
    have e0 : us 0 = .agg C := hV 0 (by simp)
    have v0 := (frame_at2 (us := us) hl (show (paT[14]?).join = some 0 from rfl)).trans e0
    have o2 := (frame_old2 (us := us) (a := a0) (show (paT[2]?).join = none from rfl)).trans k2
    generalize frame paT a0 us = fr at *
    exact store_J (R := fun v w'' => (OnlyAt r0 w' w'' ∧ Below r0 w' w'') ∧ paR r0 Z C 1 (upd us 2 v) w'') 31 2 14 rfl r0 C o2 v0 _ _ hR UP.out SP.out OP.out ⟨⟨OnlyAt.setRow _ _ _, (OnlyAt.setRow _ _ _).1⟩, setRow_heap _ _ _ _ _ _ hR⟩
  · refine stepD_val [1] (by kernel_rfl) (by decide) (by decide) rfl fun us w' hB hG hV => ?_
    have e1 : us 1 = .int .i64 y := hV 1 (by simp)
    have v1 := (frame_at2 (us := us) hl (show (paT[15]?).join = some 1 from rfl)).trans e1
    generalize frame paT a0 us = fr at *
    exact val_C (v := .int .i64 y) (w' := w') (by go_simp) (Below.refl _ _) rfl
  · intro us w2 hB2 hG hV hR
    have e3 : us 3 = .int .i64 y := hV 3 (by decide) (by decide)
    have hR1 := Lib.hid (show w2.heap[r0]? = some (.cells C 31 (0, 0)) from hR)
    have HG2 := Lib.hid hG.1
    subst ha0
    simp only [frame, paT, fill]
    rw [e3]
    clear hV hR hG hl k2 k4 k5 e3
    go_wp2_with fail
    refine bodyPost_ret (v := .tuple #[.agg C, .int .i64 y]) (adC.results_cell_tmp Tryd.results78 _ _ r0 _ _ _ _ _ (by rfl) hR1.out Tryd.underlying31 rfl UP.out (by rfl)) rfl ?_
    exact FIN.out w2 HG2.out
theorem cparse_any (A0 : Option Addr) (n0 c0 : Nat) (bs : List Int) (w : World) (hb : Nums .u8 w w.heap.size A0 n0 bs) (hy : ∀ x ∈ bs, Byte x) (hn : n0 ≤ 9223372036854775807) :
    Calls Tryd.prog 78 #[.slice A0 n0 c0] w (PsR w bs) :=
  (cparse_own A0 n0 c0 bs w hb hy hn).mono fun e w' ⟨A, n, c, h1, h2, h3, h4⟩ => ⟨A, n, c, h1, h2, OwnP.prs h3, h4⟩
end Go.Proofs.YtniimgbljhmcoaaDoor.opC
