/-
  The document's sha: a block's eighty numbers.
-/
import Derived.Test.YtbpolandhjcggaaShaA
import Derived.StillTailTactics
import Derived.Deep.CutRange
import Derived.Deep.RegionHeld3
import Derived.Test.YtbpolandhjcggaaLast
namespace Go.Proofs.Ytbpolandhjcggaa.shaC
open Go.ChangeShapes Go.WideShapes Go.ChangeAt Go.RowKit
open Go.Proofs.Ytbpolandhjcggaa.memC Go.Proofs.Ytbpolandhjcggaa.genC Go.Proofs.Ytbpolandhjcggaa.shaM
set_option linter.unusedVariables false
theorem zero80_info : (Try.prog.info? 53).map (·.zero) = some (some (.agg ((List.replicate 80 (0 : Int)).map (Value.int .u32)).toArray)) := by kernel_rfl
theorem zero80 (w : World) : (zeroValue 53).run Try.prog w = .ok (.agg ((List.replicate 80 (0 : Int)).map (Value.int .u32)).toArray) w := by
  obtain ⟨i, hi, hz⟩ := Option.map_eq_some_iff.1 zero80_info
  simp [zeroValue, typeInfo, hi, hz]
/-- the blocks that a call of block lays -/
structure BR (w : World) (h ws : List Int) (wr : World) : Prop where
  b0 : Arr .u32 38 wr w.heap.size h
  b1 : Arr .u32 38 wr (w.heap.size + 1) [0, 0, 0, 0, 0]
  b2 : Arr .u32 53 wr (w.heap.size + 1 + 1) ws
  bel : Below w.heap.size w wr
theorem BR.heap {w wr w' : World} {h ws : List Int} (B : BR w h ws wr) (e : w'.heap = wr.heap) (e1 : w'.os = wr.os) (e2 : w'.tape = wr.tape) (e3 : w'.output = wr.output) : BR w h ws w' :=
  ⟨B.b0.heap e, B.b1.heap e, B.b2.heap e, B.bel.trans ⟨e1, e2, e3, by rw [e]; exact Nat.le_refl _, fun k _ => by rw [e]⟩⟩
theorem BR.w {w wr : World} {h ws : List Int} (B : BR w h ws wr) (j : Nat) (x : Int) : BR w h (ws.set j x) (wr.setCell ⟨w.heap.size + 1 + 1, j, none⟩ (.int .u32 x)) :=
  ⟨B.b0.other (by show w.heap.size + 1 + 1 ≠ w.heap.size; omega) _, B.b1.other (by show w.heap.size + 1 + 1 ≠ w.heap.size + 1; omega) _, B.b2.stored j x, B.bel.setCell (p := ⟨w.heap.size + 1 + 1, j, none⟩) (by show w.heap.size ≤ w.heap.size + 1 + 1; omega) _⟩
theorem set_pad (ws : List Int) (t : Nat) (x : Int) (hl : ws.length = t) (ht : t < 80) : (ws ++ List.replicate (80 - t) 0).set t x = (ws ++ [x]) ++ List.replicate (80 - (t + 1)) 0 := by
  have e : 80 - t = (80 - (t + 1)) + 1 := by omega
  rw [List.set_append_right _ _ (by omega), hl, Nat.sub_self, e, List.replicate_succ]
  simp
/-- what lies in a cell -/
def tv (w : World) (b t : Nat) : Value := (w.cell? ⟨b, t, none⟩).getD undef
theorem tv_of {w : World} {b t : Nat} {v : Value} (h : w.cell? ⟨b, t, none⟩ = some v) : w.cell? ⟨b, t, none⟩ = some (tv w b t) := by unfold tv; rw [h]; rfl
/-- what region 7 reads, and what it writes -/
def S7 (g q3 q8 q14 q16 t : Nat) (x3 x8 x14 x16 : Int) (w' : World) : Prop :=
  w'.cell? ⟨g, q3, none⟩ = some (.int .u32 x3) ∧ w'.cell? ⟨g, q8, none⟩ = some (.int .u32 x8) ∧ w'.cell? ⟨g, q14, none⟩ = some (.int .u32 x14) ∧
    w'.cell? ⟨g, q16, none⟩ = some (.int .u32 x16) ∧ w'.cell? ⟨g, t, none⟩ = some (tv w' g t) ∧ w'.frozen? ⟨g, t, none⟩ = false
section
variable {g q3 q8 q14 q16 t : Nat} {x3 x8 x14 x16 : Int} {w' : World}
theorem S7.drew (h : S7 g q3 q8 q14 q16 t x3 x8 x14 x16 w') : S7 g q3 q8 q14 q16 t x3 x8 x14 x16 w'.drew := h
theorem S7.drewN (j : Nat) (h : S7 g q3 q8 q14 q16 t x3 x8 x14 x16 w') : S7 g q3 q8 q14 q16 t x3 x8 x14 x16 (w'.drewN j) := h
theorem S7.store (h3 : q3 ≠ t) (h8 : q8 ≠ t) (h14 : q14 ≠ t) (h16 : q16 ≠ t) (y : Value) (h : S7 g q3 q8 q14 q16 t x3 x8 x14 x16 w') : S7 g q3 q8 q14 q16 t x3 x8 x14 x16 (w'.setCell ⟨g, t, none⟩ y) := by
  obtain ⟨a, b, c, d, e, f⟩ := h
  have k3 : ¬ q3 = t := h3
  have k8 : ¬ q8 = t := h8
  have k14 : ¬ q14 = t := h14
  have k16 : ¬ q16 = t := h16
  refine ⟨?_, ?_, ?_, ?_, ?_, ?_⟩
  · go_simp
  · go_simp
  · go_simp
  · go_simp
  · exact tv_of (v := y) (by go_simp)
  · go_simp
end
/-- the number in a cell -/
def tn (w : World) (g i : Nat) : Int := match w.cell? ⟨g, i, none⟩ with
  | some (.int _ z) => z
  | _ => 0
theorem tn_val {w : World} {g i : Nat} {k : IntKind} {z : Int} (h : w.cell? ⟨g, i, none⟩ = some (.int k z)) : tn w g i = z := by unfold tn; rw [h]
theorem tn_of {w : World} {g i : Nat} {k : IntKind} {z : Int} (h : w.cell? ⟨g, i, none⟩ = some (.int k z)) : w.cell? ⟨g, i, none⟩ = some (.int k (tn w g i)) := by rw [tn_val h, h]
/-- five numbers that may be read and written -/
def S21 (g : Nat) (w' : World) : Prop :=
  w'.cell? ⟨g, 0, none⟩ = some (.int .u32 (tn w' g 0)) ∧ w'.cell? ⟨g, 1, none⟩ = some (.int .u32 (tn w' g 1)) ∧ w'.cell? ⟨g, 2, none⟩ = some (.int .u32 (tn w' g 2)) ∧ w'.cell? ⟨g, 3, none⟩ = some (.int .u32 (tn w' g 3)) ∧ w'.cell? ⟨g, 4, none⟩ = some (.int .u32 (tn w' g 4)) ∧
    w'.frozen? ⟨g, 0, none⟩ = false ∧ w'.frozen? ⟨g, 1, none⟩ = false ∧ w'.frozen? ⟨g, 2, none⟩ = false ∧ w'.frozen? ⟨g, 3, none⟩ = false ∧ w'.frozen? ⟨g, 4, none⟩ = false
section
variable {g : Nat} {w' : World}
theorem S21.mk {z0 z1 z2 z3 z4 : Int} (c0 : w'.cell? ⟨g, 0, none⟩ = some (.int .u32 z0)) (c1 : w'.cell? ⟨g, 1, none⟩ = some (.int .u32 z1)) (c2 : w'.cell? ⟨g, 2, none⟩ = some (.int .u32 z2)) (c3 : w'.cell? ⟨g, 3, none⟩ = some (.int .u32 z3)) (c4 : w'.cell? ⟨g, 4, none⟩ = some (.int .u32 z4))
    (f0 : w'.frozen? ⟨g, 0, none⟩ = false) (f1 : w'.frozen? ⟨g, 1, none⟩ = false) (f2 : w'.frozen? ⟨g, 2, none⟩ = false) (f3 : w'.frozen? ⟨g, 3, none⟩ = false) (f4 : w'.frozen? ⟨g, 4, none⟩ = false) : S21 g w' :=
  ⟨tn_of c0, tn_of c1, tn_of c2, tn_of c3, tn_of c4, f0, f1, f2, f3, f4⟩
theorem S21.drew (h : S21 g w') : S21 g w'.drew := h
theorem S21.drewN (j : Nat) (h : S21 g w') : S21 g (w'.drewN j) := h
theorem S21.store (y0 y1 y2 y3 y4 : Int) (h : S21 g w') : S21 g (((((w'.setCell ⟨g, 0, none⟩ (.int .u32 y0)).setCell ⟨g, 1, none⟩ (.int .u32 y1)).setCell ⟨g, 2, none⟩ (.int .u32 y2)).setCell ⟨g, 3, none⟩ (.int .u32 y3)).setCell ⟨g, 4, none⟩ (.int .u32 y4)) := by
  obtain ⟨a, b, c, d, e, f0, f1, f2, f3, f4⟩ := h
  refine S21.mk (z0 := y0) (z1 := y1) (z2 := y2) (z3 := y3) (z4 := y4) ?_ ?_ ?_ ?_ ?_ ?_ ?_ ?_ ?_ ?_ <;> go_simp
end
/-- the blocks, the five numbers that go round among them -/
structure BX (w : World) (g : Nat) (h ws xs : List Int) (wr : World) : Prop where
  b0 : Arr .u32 38 wr w.heap.size h
  b1 : Arr .u32 38 wr (w.heap.size + 1) [0, 0, 0, 0, 0]
  b2 : Arr .u32 53 wr (w.heap.size + 1 + 1) ws
  b3 : Arr .u32 38 wr g xs
  lt : w.heap.size + 1 + 1 < g
  bel : Below w.heap.size w wr
theorem BX.heap {w wr w' : World} {g : Nat} {h ws xs : List Int} (B : BX w g h ws xs wr) (e : w'.heap = wr.heap) (e1 : w'.os = wr.os) (e2 : w'.tape = wr.tape) (e3 : w'.output = wr.output) : BX w g h ws xs w' :=
  ⟨B.b0.heap e, B.b1.heap e, B.b2.heap e, B.b3.heap e, B.lt, B.bel.trans ⟨e1, e2, e3, by rw [e]; exact Nat.le_refl _, fun k _ => by rw [e]⟩⟩
theorem BX.x {w wr : World} {g : Nat} {h ws xs : List Int} (B : BX w g h ws xs wr) (j : Nat) (x : Int) : BX w g h ws (xs.set j x) (wr.setCell ⟨g, j, none⟩ (.int .u32 x)) := by
  have hg := B.lt
  exact ⟨B.b0.other (by show g ≠ w.heap.size; omega) _, B.b1.other (by show g ≠ w.heap.size + 1; omega) _, B.b2.other (by show g ≠ w.heap.size + 1 + 1; omega) _, B.b3.stored j x, hg, B.bel.setCell (p := ⟨g, j, none⟩) (by show w.heap.size ≤ g; omega) _⟩
theorem BX.cast {w wr : World} {g : Nat} {h ws xs ys : List Int} (e : xs = ys) (B : BX w g h ws xs wr) : BX w g h ws ys wr := e ▸ B
theorem BX.h {w wr : World} {g : Nat} {h ws xs : List Int} (B : BX w g h ws xs wr) (j : Nat) (x : Int) : BX w g (h.set j x) ws xs (wr.setCell ⟨w.heap.size, j, none⟩ (.int .u32 x)) := by
  have hg := B.lt
  exact ⟨B.b0.stored j x, B.b1.other (by show w.heap.size ≠ w.heap.size + 1; omega) _, B.b2.other (by show w.heap.size ≠ w.heap.size + 1 + 1; omega) _, B.b3.other (by show w.heap.size ≠ g; omega) _, hg, B.bel.setCell (p := ⟨w.heap.size, j, none⟩) (Nat.le_refl _) _⟩
/-- five numbers, and what was there stands -/
def BlkRet (w : World) (h bs : List Int) (e : Ending) (w' : World) : Prop := e = .returned (.agg ((blk h bs).map (Value.int .u32)).toArray) ∧ Below w.heap.size w w'
/-- the first k of the five added -/
def mixL (h x : List Int) (k : Nat) : List Int := (List.zipWith ad h x).take k ++ h.drop k
set_option maxRecDepth 100000 in
set_option maxHeartbeats 1000000 in
theorem block_any (h0 h1 h2 h3 h4 : Int) (A : Option Addr) (c : Nat) (bs : List Int) (w : World) (hb : Nums .u8 w w.heap.size A 64 bs) (hy : ∀ x ∈ bs, Byte x)
    (g0 : W32 h0) (g1 : W32 h1) (g2 : W32 h2) (g3 : W32 h3) (g4 : W32 h4) :
    Calls Try.prog 25 #[.agg #[.int .u32 h0, .int .u32 h1, .int .u32 h2, .int .u32 h3, .int .u32 h4], .slice A 64 c] w (BlkRet w [h0, h1, h2, h3, h4] bs) := by
  obtain ⟨Z, hZ⟩ : ∃ Z, Z = ((List.replicate 80 (0 : Int)).map (Value.int .u32)).toArray := ⟨_, rfl⟩
  have hzv := zero80
  rw [← hZ] at hzv
  have HZ := Lib.hid hZ
  clear hZ
  go_enter Try.func25, Try.ntmps25
  go_wp2_with fail
  go_loopw [6] (fun i wr => ∃ t : Nat, t ≤ 80 ∧ i = .int .i64 t ∧ BR w [h0, h1, h2, h3, h4] (sched bs t ++ List.replicate (80 - t) 0) wr) (fun i _ => 80 - (intOf i).toNat)
  case atStart =>
    refine ⟨0, by omega, rfl, ?_, ?_, ?_, ?_⟩
    · exact (((Arr.new w .u32 38 [h0, h1, h2, h3, h4]).alloc _).alloc _)
    · have := ((Arr.new (w.alloc (.cells ([h0, h1, h2, h3, h4].map (Value.int .u32)).toArray 38)) .u32 38 [0, 0, 0, 0, 0]).alloc (.cells Z 53))
      rw [alloc_size] at this; exact this
    · have := Arr.new ((w.alloc (.cells ([h0, h1, h2, h3, h4].map (Value.int .u32)).toArray 38)).alloc (.cells (([0, 0, 0, 0, 0] : List Int).map (Value.int .u32)).toArray 38)) .u32 53 (List.replicate 80 0)
      rw [alloc_size, alloc_size, ← HZ.out] at this; exact this
    · exact (((Below.refl _ _).alloc (Nat.le_refl _) _).alloc (by simp) _).alloc (by simp; omega) _
  case round =>
    obtain ⟨t, ht, rfl, BB⟩ := hrel
    have HB := Lib.hid BB
    by_cases hlt : t < 80
    · by_cases h16 : t < 16
      · obtain ⟨p, hp⟩ : ∃ p, p = 4 * t := ⟨_, rfl⟩
        have hpz : (4 : Int) * (t : Int) = (p : Int) := by omega
        have hp60 : p ≤ 60 := by omega
        have HP := Lib.hid hp
        clear hp
        have hLb := hb.len
        obtain ⟨b, o, rfl, hbb, hcA⟩ := hb.at_ (by omega)
        have cc0 : wr.cell? ⟨b, o + p, none⟩ = some (.int .u8 (bs.getD p 0)) := (HB.out.bel.cell (p := ⟨b, o + p, none⟩) hbb).trans (hcA p (by omega))
        have cc1 : wr.cell? ⟨b, o + (p + 1), none⟩ = some (.int .u8 (bs.getD (p + 1) 0)) := (HB.out.bel.cell (p := ⟨b, o + (p + 1), none⟩) hbb).trans (hcA (p + 1) (by omega))
        have cc2 : wr.cell? ⟨b, o + (p + 2), none⟩ = some (.int .u8 (bs.getD (p + 2) 0)) := (HB.out.bel.cell (p := ⟨b, o + (p + 2), none⟩) hbb).trans (hcA (p + 2) (by omega))
        have cc3 : wr.cell? ⟨b, o + (p + 3), none⟩ = some (.int .u8 (bs.getD (p + 3) 0)) := (HB.out.bel.cell (p := ⟨b, o + (p + 3), none⟩) hbb).trans (hcA (p + 3) (by omega))
        have y0 := getD_byte hy (k := p) (by omega)
        have y1 := getD_byte hy (k := p + 1) (by omega)
        have y2 := getD_byte hy (k := p + 2) (by omega)
        have y3 := getD_byte hy (k := p + 3) (by omega)
        have hw0 := BB.b2.cell (j := t) (by simp [sched_len]; omega)
        have hf0 := BB.b2.frozen t
        obtain ⟨v, hv⟩ : ∃ v, v = (sched bs t ++ List.replicate (80 - t) 0).getD t 0 := ⟨_, rfl⟩
        rw [← hv] at hw0
        have HT := Lib.hid (show sched bs (t + 1) = sched bs t ++ [bs.getD p 0 * 16777216 + bs.getD (p + 1) 0 * 65536 + bs.getD (p + 2) 0 * 256 + bs.getD (p + 3) 0] by
          rw [sched, nextW, if_pos h16, word, ← HP.out])
        generalize bs.getD p 0 = x0 at *
        generalize bs.getD (p + 1) 0 = x1 at *
        generalize bs.getD (p + 2) 0 = x2 at *
        generalize bs.getD (p + 3) 0 = x3 at *
        obtain ⟨y00, y01⟩ := y0
        obtain ⟨y10, y11⟩ := y1
        obtain ⟨y20, y21⟩ := y2
        obtain ⟨y30, y31⟩ := y3
        have HBn := Lib.hid hb
        clear hv BB hcA hb hLb
        go_upto_region 6 with fail
        have i1 : IntKind.i64.wrap ((p : Int) + 1) = (p : Int) + 1 := IntWalk.i64_in _ (by omega)
        have i2 : IntKind.i64.wrap ((p : Int) + 2) = (p : Int) + 2 := IntWalk.i64_in _ (by omega)
        have i3 : IntKind.i64.wrap ((p : Int) + 3) = (p : Int) + 3 := IntWalk.i64_in _ (by omega)
        have i0 : IntKind.i64.wrap (p : Int) = (p : Int) := IntWalk.i64_in _ (by omega)
        have j1 : (0 : Int) ≤ (p : Int) + 1 := by omega
        have j2 : (0 : Int) ≤ (p : Int) + 2 := by omega
        have j3 : (0 : Int) ≤ (p : Int) + 3 := by omega
        have k1 : ((p : Int) + 1).toNat = p + 1 := by omega
        have k2 : ((p : Int) + 2).toNat = p + 2 := by omega
        have k3 : ((p : Int) + 3).toNat = p + 3 := by omega
        have l0 : (p : Int) < 64 := by omega
        have l1 : (p : Int) + 1 < 64 := by omega
        have l2 : (p : Int) + 2 < 64 := by omega
        have l3 : (p : Int) + 3 < 64 := by omega
        have m0 : IntKind.u32.wrap x0 = x0 := IntWalk.u32_in _ (by omega)
        have m1 : IntKind.u32.wrap x1 = x1 := IntWalk.u32_in _ (by omega)
        have m2 : IntKind.u32.wrap x2 = x2 := IntWalk.u32_in _ (by omega)
        have m3 : IntKind.u32.wrap x3 = x3 := IntWalk.u32_in _ (by omega)
        have s0 : IntKind.u32.wrap (x0 * 16777216) = x0 * 16777216 := IntWalk.u32_in _ (by omega)
        have s1 : IntKind.u32.wrap (x1 * 65536) = x1 * 65536 := IntWalk.u32_in _ (by omega)
        have s2 : IntKind.u32.wrap (x2 * 256) = x2 * 256 := IntWalk.u32_in _ (by omega)
        have n1 : IntKind.u32.wrap (x0 * 16777216 + x1 * 65536) = x0 * 16777216 + x1 * 65536 := IntWalk.u32_in _ (by omega)
        have n2 : IntKind.u32.wrap (x0 * 16777216 + x1 * 65536 + x2 * 256) = x0 * 16777216 + x1 * 65536 + x2 * 256 := IntWalk.u32_in _ (by omega)
        have n3 : IntKind.u32.wrap (x0 * 16777216 + x1 * 65536 + x2 * 256 + x3) = x0 * 16777216 + x1 * 65536 + x2 * 256 + x3 := IntWalk.u32_in _ (by omega)
        go_still_tail 34, (by kernel_rfl)
        change wpList _ _ _ _ _ wr.drew
        clear i1 i2 i3 i0 j1 j2 j3 k1 k2 k3 l0 l1 l2 l3 m0 m1 m2 m3 s0 s1 s2 n1 n2 n3
        go_wp2_with fail
        go_roundw
        case rel =>
          refine ⟨t + 1, by omega, by go_num, ?_⟩
          rw [HT.out, ← set_pad _ t _ (sched_len bs t) hlt]
          exact (HB.out.w t _).heap rfl rfl rfl rfl
        case measure => simp [intOf]; omega
      · have hg : ∀ q, 1 ≤ q → q ≤ t → (sched bs t ++ List.replicate (80 - t) 0).getD (t - q) 0 = (sched bs t).getD (t - q) 0 := fun q h1 h2 => by
          rw [List.getD_eq_getElem?_getD, List.getD_eq_getElem?_getD, List.getElem?_append_left (by rw [sched_len]; omega)]
        have hl80 : (sched bs t ++ List.replicate (80 - t) 0).length = 80 := by simp [sched_len]; omega
        have c3 := BB.b2.cell (j := t - 3) (by omega)
        have c8 := BB.b2.cell (j := t - 8) (by omega)
        have c14 := BB.b2.cell (j := t - 14) (by omega)
        have c16 := BB.b2.cell (j := t - 16) (by omega)
        rw [hg 3 (by omega) (by omega)] at c3
        rw [hg 8 (by omega) (by omega)] at c8
        rw [hg 14 (by omega) (by omega)] at c14
        rw [hg 16 (by omega) (by omega)] at c16
        have hw0 := BB.b2.cell (j := t) (by omega)
        have hf0 := BB.b2.frozen t
        obtain ⟨v, hv⟩ : ∃ v, v = (sched bs t ++ List.replicate (80 - t) 0).getD t 0 := ⟨_, rfl⟩
        rw [← hv] at hw0
        have HT := Lib.hid (show sched bs (t + 1) = sched bs t ++ [rol (xo (xo (xo ((sched bs t).getD (t - 3) 0) ((sched bs t).getD (t - 8) 0)) ((sched bs t).getD (t - 14) 0)) ((sched bs t).getD (t - 16) 0)) 1] by
          rw [sched, nextW, if_neg h16])
        generalize (sched bs t).getD (t - 3) 0 = x3 at *
        generalize (sched bs t).getD (t - 8) 0 = x8 at *
        generalize (sched bs t).getD (t - 14) 0 = x14 at *
        generalize (sched bs t).getD (t - 16) 0 = x16 at *
        have RR := Lib.hid (fun w => round_any (xo (xo (xo x3 x8) x14) x16) 1 w (w32_xo _ _) (by omega) (by omega))
        have HBn := Lib.hid hb
        clear hv BB hb hg hl80
        go_upto_region 7 with fail
        obtain ⟨q3, e3⟩ : ∃ q, q = t - 3 := ⟨_, rfl⟩
        rw [← e3] at c3
        have z3 : (t : Int) - 3 = (q3 : Int) := by omega
        have i3 : IntKind.i64.wrap (q3 : Int) = (q3 : Int) := IntWalk.i64_in _ (by omega)
        have l3 : (q3 : Int) < 80 := by omega
        have n3 : q3 < 80 := by omega
        have d3 : q3 ≠ t := by omega
        obtain ⟨q8, e8⟩ : ∃ q, q = t - 8 := ⟨_, rfl⟩
        rw [← e8] at c8
        have z8 : (t : Int) - 8 = (q8 : Int) := by omega
        have i8 : IntKind.i64.wrap (q8 : Int) = (q8 : Int) := IntWalk.i64_in _ (by omega)
        have l8 : (q8 : Int) < 80 := by omega
        have n8 : q8 < 80 := by omega
        have d8 : q8 ≠ t := by omega
        obtain ⟨q14, e14⟩ : ∃ q, q = t - 14 := ⟨_, rfl⟩
        rw [← e14] at c14
        have z14 : (t : Int) - 14 = (q14 : Int) := by omega
        have i14 : IntKind.i64.wrap (q14 : Int) = (q14 : Int) := IntWalk.i64_in _ (by omega)
        have l14 : (q14 : Int) < 80 := by omega
        have n14 : q14 < 80 := by omega
        have d14 : q14 ≠ t := by omega
        obtain ⟨q16, e16⟩ : ∃ q, q = t - 16 := ⟨_, rfl⟩
        rw [← e16] at c16
        have z16 : (t : Int) - 16 = (q16 : Int) := by omega
        have i16 : IntKind.i64.wrap (q16 : Int) = (q16 : Int) := IntWalk.i64_in _ (by omega)
        have l16 : (q16 : Int) < 80 := by omega
        have n16 : q16 < 80 := by omega
        have d16 : q16 ≠ t := by omega
        clear e3 e8 e14 e16
        have HS : S7 (w.heap.size + 1 + 1) q3 q8 q14 q16 t x3 x8 x14 x16 wr := ⟨c3, c8, c14, c16, tv_of hw0, hf0⟩
        clear c3 c8 c14 c16 hw0 hf0
        go_region_held3 (fun w' => w'.cell? ⟨w.heap.size + 1 + 1, q3, none⟩ = some (.int .u32 x3) ∧ w'.cell? ⟨w.heap.size + 1 + 1, q8, none⟩ = some (.int .u32 x8) ∧ w'.cell? ⟨w.heap.size + 1 + 1, q14, none⟩ = some (.int .u32 x14) ∧
            w'.cell? ⟨w.heap.size + 1 + 1, q16, none⟩ = some (.int .u32 x16) ∧ w'.cell? ⟨w.heap.size + 1 + 1, t, none⟩ = some (tv w' (w.heap.size + 1 + 1) t) ∧ w'.frozen? ⟨w.heap.size + 1 + 1, t, none⟩ = false)
          (first | exact S7.drew HS | exact S7.drewN _ (by assumption) | exact S7.store d3 d8 d14 d16 _ (by assumption) | go_keep)
          (first
            | (go_at_call 29; refine (RR.out _).mono ?_; rintro e w1 ⟨rfl, j, rfl⟩))
        clear i3 i8 i14 i16 z3 z8 z14 z16 l3 l8 l14 l16 n3 n8 n14 n16
        go_wp2_with fail
        go_roundw
        case rel =>
          refine ⟨t + 1, by omega, by go_num, ?_⟩
          rw [HT.out, ← set_pad _ t _ (sched_len bs t) hlt]
          exact (HB.out.heap (w' := wr.drewN (1 + j)) rfl rfl rfl rfl).w t _
        case measure => simp [intOf]; omega
    · have e : t = 80 := by omega
      subst e
      have HBn := Lib.hid hb
      have q0 := BB.b0.cell (j := 0) (by simp)
      have q1 := BB.b0.cell (j := 1) (by simp)
      have q2 := BB.b0.cell (j := 2) (by simp)
      have q3 := BB.b0.cell (j := 3) (by simp)
      have q4 := BB.b0.cell (j := 4) (by simp)
      have sz := BB.b2.lt
      have X0 : BX w wr.heap.size [h0, h1, h2, h3, h4] (sched bs 80) [h0, h1, h2, h3, h4] (wr.alloc (.cells #[.int .u32 h0, .int .u32 h1, .int .u32 h2, .int .u32 h3, .int .u32 h4] 38)) := by
        have e : sched bs 80 ++ List.replicate (80 - 80) 0 = sched bs 80 := by simp
        rw [e] at BB
        exact ⟨BB.b0.alloc _, BB.b1.alloc _, BB.b2.alloc _, Arr.new wr .u32 38 [h0, h1, h2, h3, h4], sz, BB.bel.alloc (by omega) _⟩
      clear BB hb hlt HB
      go_upto_region 9 with fail
      clear q0 q1 q2 q3 q4 sz
      generalize (wr.alloc (.cells #[.int .u32 h0, .int .u32 h1, .int .u32 h2, .int .u32 h3, .int .u32 h4] 38)) = w9 at *
      generalize wr.heap.size = g at *
      clear hzv HZ Z
      go_wp2_with fail
      go_loopw [8] (fun i wx => ∃ t : Nat, t ≤ 80 ∧ i = .int .i64 t ∧ BX w g [h0, h1, h2, h3, h4] (sched bs 80) (steps (sched bs 80) [h0, h1, h2, h3, h4] t) wx) (fun i _ => 80 - (intOf i).toNat)
      case atStart => exact ⟨0, by omega, rfl, X0⟩
      case round =>
        obtain ⟨t, ht, rfl, BB⟩ := hrel
        have HB := Lib.hid BB
        by_cases hlt : t < 80
        · have hS := steps_w32 (ws := sched bs 80) (h := [h0, h1, h2, h3, h4]) rfl (by simp; exact ⟨g0, g1, g2, g3, g4⟩) t
          obtain ⟨x0, x1, x2, x3, x4, hx⟩ := list5 (steps_len (ws := sched bs 80) (h := [h0, h1, h2, h3, h4]) rfl t)
          rw [hx] at hS BB
          have HX := Lib.hid hx
          have k0 := hS x0 (by simp)
          have k1 := hS x1 (by simp)
          have k2 := hS x2 (by simp)
          have k3 := hS x3 (by simp)
          have k4 := hS x4 (by simp)
          have c0 := BB.b3.cell (j := 0) (by simp)
          have c1 := BB.b3.cell (j := 1) (by simp)
          have c2 := BB.b3.cell (j := 2) (by simp)
          have c3 := BB.b3.cell (j := 3) (by simp)
          have c4 := BB.b3.cell (j := 4) (by simp)
          have cw := BB.b2.cell (j := t) (by rw [sched_len]; exact hlt)
          have f0 := BB.b3.frozen 0
          have f1 := BB.b3.frozen 1
          have f2 := BB.b3.frozen 2
          have f3 := BB.b3.frozen 3
          have f4 := BB.b3.frozen 4
          have kw : W32 ((sched bs 80).getD t 0) := by
            rw [List.getD_eq_getElem?_getD, List.getElem?_eq_getElem (by rw [sched_len]; exact hlt)]
            exact sched_w32 hy HBn.out.len 80 _ (List.getElem_mem _)
          simp only [List.getD_cons_zero, List.getD_cons_succ] at c0 c1 c2 c3 c4
          obtain ⟨y, hyw⟩ : ∃ y, y = (sched bs 80).getD t 0 := ⟨_, rfl⟩
          rw [← hyw] at cw kw
          have HY := Lib.hid hyw
          have HT := Lib.hid (step_eq HX.out HY.out)
          have R0 := Lib.hid (fun w => round_any x0 5 w k0 (by omega) (by omega))
          have R1 := Lib.hid (fun w => round_any x1 30 w k1 (by omega) (by omega))
          obtain ⟨k00, k01⟩ := k0
          obtain ⟨k10, k11⟩ := k1
          obtain ⟨k20, k21⟩ := k2
          obtain ⟨k30, k31⟩ := k3
          obtain ⟨k40, k41⟩ := k4
          obtain ⟨kw0, kw1⟩ := kw
          have hl4 : (t : Int) < 80 := by omega
          clear hS hx hyw BB
          rcases (show t / 20 = 0 ∨ t / 20 = 1 ∨ t / 20 = 2 ∨ t / 20 = 3 by omega) with hc | hc | hc | hc
          all_goals
            first
            | (have hz : (t : Int) / 20 = 0 := by omega)
            | (have hz : (t : Int) / 20 = 1 := by omega)
            | (have hz : (t : Int) / 20 = 2 := by omega)
            | (have hz : (t : Int) / 20 = 3 := by omega)
            have HC := Lib.hid hc
            clear hc
            go_upto_region 20 with fail
            go_quiet ((go_at_call 29; exact Calls.quiet_of (R0.out _)))
            go_upto_region 21 with fail
            have HB2 : BX w g [h0, h1, h2, h3, h4] (sched bs 80) (steps (sched bs 80) [h0, h1, h2, h3, h4] t) (wr.drewN nq) := HB.out.heap rfl rfl rfl rfl
            rw [← World.cell?_drewN (w := wr) (n := nq)] at c0 c1 c2 c3 c4
            rw [← World.frozen?_drewN (w := wr) (n := nq)] at f0 f1 f2 f3 f4
            rw [HX.out] at HB2
            clear cw
            generalize wr.drewN nq = w20 at *
            refine Go.Proofs.Ytbpolandhjcggaa.lastC.wp_region_last 11 (by kernel_rfl) (by kernel_rfl) (by kernel_rfl) (by kernel_rfl) ?_
            simp only [List.take_succ_cons, List.take_zero, List.drop_succ_cons, List.drop_zero]
            repeat (first | go_big_quiet_step ((go_at_call 29; exact Calls.quiet_of (R1.out _))) | quiet_step ((go_at_call 29; exact Calls.quiet_of (R1.out _))))
            refine wpQuiet_nil ?_
            intro w2 hw2
            obtain ⟨n2, hw3⟩ := hw2
            subst hw3
            go_wp2_with fail
            go_roundw
            case rel =>
              refine ⟨t + 1, by omega, by go_num, BX.cast ?_ ((((((HB2.heap (w' := w20.drewN n2) rfl rfl rfl rfl).x 0 _).x 1 _).x 2 _).x 3 _).x 4 _)⟩
              rw [HT.out]
              simp only [List.set_cons_zero, List.set_cons_succ]
              congr 1
              simp only [fN, kN, HC.out, ad, ro, an, nt, xo]
              first
              | (simp [IntKind.signed]; done)
              | (simp; done)
              | (simp [IntKind.signed]; omega)
            case measure => simp [intOf]; omega
        · have e : t = 80 := by omega
          subst e
          have hS := steps_w32 (ws := sched bs 80) (h := [h0, h1, h2, h3, h4]) rfl (by simp; exact ⟨g0, g1, g2, g3, g4⟩) 80
          obtain ⟨x0, x1, x2, x3, x4, hx⟩ := list5 (steps_len (ws := sched bs 80) (h := [h0, h1, h2, h3, h4]) rfl 80)
          rw [hx] at hS BB
          have HX := Lib.hid hx
          have X1 := BB
          clear BB HB hlt hx X0
          have k0 := hS x0 (by simp)
          have k1 := hS x1 (by simp)
          have k2 := hS x2 (by simp)
          have k3 := hS x3 (by simp)
          have k4 := hS x4 (by simp)
          clear hS
          go_wp2_with fail
          go_loopw [12] (fun i wy => ∃ k : Nat, k ≤ 5 ∧ i = .int .i64 k ∧ BX w g (mixL [h0, h1, h2, h3, h4] [x0, x1, x2, x3, x4] k) (sched bs 80) [x0, x1, x2, x3, x4] wy) (fun i _ => 5 - (intOf i).toNat)
          case atStart => exact ⟨0, by omega, rfl, X1⟩
          case round =>
            obtain ⟨k, hk, rfl, BB⟩ := hrel
            by_cases hlt : k < 5
            · have HB := Lib.hid BB
              rcases (show k = 0 ∨ k = 1 ∨ k = 2 ∨ k = 3 ∨ k = 4 by omega) with rfl | rfl | rfl | rfl | rfl
              · have cx : wr.cell? ⟨g, 0, none⟩ = some (.int .u32 x0) := BB.b3.cell (j := 0) (by simp)
                have ch : wr.cell? ⟨w.heap.size, 0, none⟩ = some (.int .u32 h0) := BB.b0.cell (j := 0) (by simp [mixL])
                have fh := BB.b0.frozen 0
                clear BB
                go_upto_region 25 with fail
                refine Go.Proofs.Ytbpolandhjcggaa.lastC.wp_region_last 8 (by kernel_rfl) (by kernel_rfl) (by kernel_rfl) (by kernel_rfl) ?_
                simp only [List.take_succ_cons, List.take_zero, List.drop_succ_cons, List.drop_zero]
                repeat (first | go_big_quiet_step (fail) | quiet_step (fail))
                refine wpQuiet_nil ?_
                intro w2 hw2
                obtain ⟨n2, hw3⟩ := hw2
                subst hw3
                go_wp2_with fail
                go_roundw
                case rel => exact ⟨0 + 1, by omega, by go_num, (HB.out.heap (w' := wr.drewN n2) rfl rfl rfl rfl).h 0 _⟩
                case measure => simp [intOf]
              · have cx : wr.cell? ⟨g, 1, none⟩ = some (.int .u32 x1) := BB.b3.cell (j := 1) (by simp)
                have ch : wr.cell? ⟨w.heap.size, 1, none⟩ = some (.int .u32 h1) := BB.b0.cell (j := 1) (by simp [mixL])
                have fh := BB.b0.frozen 1
                clear BB
                go_upto_region 25 with fail
                refine Go.Proofs.Ytbpolandhjcggaa.lastC.wp_region_last 8 (by kernel_rfl) (by kernel_rfl) (by kernel_rfl) (by kernel_rfl) ?_
                simp only [List.take_succ_cons, List.take_zero, List.drop_succ_cons, List.drop_zero]
                repeat (first | go_big_quiet_step (fail) | quiet_step (fail))
                refine wpQuiet_nil ?_
                intro w2 hw2
                obtain ⟨n2, hw3⟩ := hw2
                subst hw3
                go_wp2_with fail
                go_roundw
                case rel => exact ⟨1 + 1, by omega, by go_num, (HB.out.heap (w' := wr.drewN n2) rfl rfl rfl rfl).h 1 _⟩
                case measure => simp [intOf]
              · have cx : wr.cell? ⟨g, 2, none⟩ = some (.int .u32 x2) := BB.b3.cell (j := 2) (by simp)
                have ch : wr.cell? ⟨w.heap.size, 2, none⟩ = some (.int .u32 h2) := BB.b0.cell (j := 2) (by simp [mixL])
                have fh := BB.b0.frozen 2
                clear BB
                go_upto_region 25 with fail
                refine Go.Proofs.Ytbpolandhjcggaa.lastC.wp_region_last 8 (by kernel_rfl) (by kernel_rfl) (by kernel_rfl) (by kernel_rfl) ?_
                simp only [List.take_succ_cons, List.take_zero, List.drop_succ_cons, List.drop_zero]
                repeat (first | go_big_quiet_step (fail) | quiet_step (fail))
                refine wpQuiet_nil ?_
                intro w2 hw2
                obtain ⟨n2, hw3⟩ := hw2
                subst hw3
                go_wp2_with fail
                go_roundw
                case rel => exact ⟨2 + 1, by omega, by go_num, (HB.out.heap (w' := wr.drewN n2) rfl rfl rfl rfl).h 2 _⟩
                case measure => simp [intOf]
              · have cx : wr.cell? ⟨g, 3, none⟩ = some (.int .u32 x3) := BB.b3.cell (j := 3) (by simp)
                have ch : wr.cell? ⟨w.heap.size, 3, none⟩ = some (.int .u32 h3) := BB.b0.cell (j := 3) (by simp [mixL])
                have fh := BB.b0.frozen 3
                clear BB
                go_upto_region 25 with fail
                refine Go.Proofs.Ytbpolandhjcggaa.lastC.wp_region_last 8 (by kernel_rfl) (by kernel_rfl) (by kernel_rfl) (by kernel_rfl) ?_
                simp only [List.take_succ_cons, List.take_zero, List.drop_succ_cons, List.drop_zero]
                repeat (first | go_big_quiet_step (fail) | quiet_step (fail))
                refine wpQuiet_nil ?_
                intro w2 hw2
                obtain ⟨n2, hw3⟩ := hw2
                subst hw3
                go_wp2_with fail
                go_roundw
                case rel => exact ⟨3 + 1, by omega, by go_num, (HB.out.heap (w' := wr.drewN n2) rfl rfl rfl rfl).h 3 _⟩
                case measure => simp [intOf]
              · have cx : wr.cell? ⟨g, 4, none⟩ = some (.int .u32 x4) := BB.b3.cell (j := 4) (by simp)
                have ch : wr.cell? ⟨w.heap.size, 4, none⟩ = some (.int .u32 h4) := BB.b0.cell (j := 4) (by simp [mixL])
                have fh := BB.b0.frozen 4
                clear BB
                go_upto_region 25 with fail
                refine Go.Proofs.Ytbpolandhjcggaa.lastC.wp_region_last 8 (by kernel_rfl) (by kernel_rfl) (by kernel_rfl) (by kernel_rfl) ?_
                simp only [List.take_succ_cons, List.take_zero, List.drop_succ_cons, List.drop_zero]
                repeat (first | go_big_quiet_step (fail) | quiet_step (fail))
                refine wpQuiet_nil ?_
                intro w2 hw2
                obtain ⟨n2, hw3⟩ := hw2
                subst hw3
                go_wp2_with fail
                go_roundw
                case rel => exact ⟨4 + 1, by omega, by go_num, (HB.out.heap (w' := wr.drewN n2) rfl rfl rfl rfl).h 4 _⟩
                case measure => simp [intOf]
            · have e : k = 5 := by omega
              subst e
              have m0 := BB.b0
              have r0 : wr.cell? ⟨w.heap.size, 0, none⟩ = some (.int .u32 (ad h0 x0)) := BB.b0.cell (j := 0) (by simp [mixL])
              have r1 : wr.cell? ⟨w.heap.size, 1, none⟩ = some (.int .u32 (ad h1 x1)) := BB.b0.cell (j := 1) (by simp [mixL])
              have r2 : wr.cell? ⟨w.heap.size, 2, none⟩ = some (.int .u32 (ad h2 x2)) := BB.b0.cell (j := 2) (by simp [mixL])
              have r3 : wr.cell? ⟨w.heap.size, 3, none⟩ = some (.int .u32 (ad h3 x3)) := BB.b0.cell (j := 3) (by simp [mixL])
              have r4 : wr.cell? ⟨w.heap.size, 4, none⟩ = some (.int .u32 (ad h4 x4)) := BB.b0.cell (j := 4) (by simp [mixL])
              have s0 : wr.cell? ⟨w.heap.size + 1, 0, none⟩ = some (.int .u32 0) := BB.b1.cell (j := 0) (by simp)
              have s1 : wr.cell? ⟨w.heap.size + 1, 1, none⟩ = some (.int .u32 0) := BB.b1.cell (j := 1) (by simp)
              have s2 : wr.cell? ⟨w.heap.size + 1, 2, none⟩ = some (.int .u32 0) := BB.b1.cell (j := 2) (by simp)
              have s3 : wr.cell? ⟨w.heap.size + 1, 3, none⟩ = some (.int .u32 0) := BB.b1.cell (j := 3) (by simp)
              have s4 : wr.cell? ⟨w.heap.size + 1, 4, none⟩ = some (.int .u32 0) := BB.b1.cell (j := 4) (by simp)
              have z0 := BB.b1.frozen 0
              have z1 := BB.b1.frozen 1
              have z2 := BB.b1.frozen 2
              have z3 := BB.b1.frozen 3
              have z4 := BB.b1.frozen 4
              have bel := BB.bel
              clear BB m0
              go_wp2_with fail
              refine bodyPost_ret (v := .agg #[.int .u32 (ad h0 x0), .int .u32 (ad h1 x1), .int .u32 (ad h2 x2), .int .u32 (ad h3 x3), .int .u32 (ad h4 x4)]) (by simp [results, Try.results25, go_sem, s0, s1, s2, s3, s4]) rfl ⟨?_, ?_⟩
              · rw [blk, HX.out]; rfl
              · exact ((((bel.setCell (p := ⟨w.heap.size + 1, 0, none⟩) (Nat.le_succ _) _).setCell (p := ⟨w.heap.size + 1, 1, none⟩) (Nat.le_succ _) _).setCell (p := ⟨w.heap.size + 1, 2, none⟩) (Nat.le_succ _) _).setCell (p := ⟨w.heap.size + 1, 3, none⟩) (Nat.le_succ _) _).setCell (p := ⟨w.heap.size + 1, 4, none⟩) (Nat.le_succ _) _
end Go.Proofs.Ytbpolandhjcggaa.shaC
