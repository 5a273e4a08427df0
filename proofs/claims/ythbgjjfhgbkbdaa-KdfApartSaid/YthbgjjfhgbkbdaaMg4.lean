/-
  4 texts of a proof, joined.
-/
import Derived.Test.YthbgjjfhgbkbdaaMg3
import Derived.StillTailTactics
import Derived.Deep.CutRange
import Derived.Deep.RegionHeld3

/-
  The document's sha: a block's eighty numbers.
-/
namespace Go.Proofs.Ythbgjjfhgbkbdaa.shaC
open Go.ChangeShapes Go.WideShapes Go.ChangeAt Go.RowKit
open Go.Proofs.Ythbgjjfhgbkbdaa.memC Go.Proofs.Ythbgjjfhgbkbdaa.genC Go.Proofs.Ythbgjjfhgbkbdaa.shaM
set_option linter.unusedVariables false
theorem zero80_info : (Try.prog.info? 101).map (·.zero) = some (some (.agg ((List.replicate 80 (0 : Int)).map (Value.int .u32)).toArray)) := by kernel_rfl
theorem zero80 (w : World) : (zeroValue 101).run Try.prog w = .ok (.agg ((List.replicate 80 (0 : Int)).map (Value.int .u32)).toArray) w := by
  obtain ⟨i, hi, hz⟩ := Option.map_eq_some_iff.1 zero80_info
  simp [zeroValue, typeInfo, hi, hz]
/-- the blocks that a call of block lays -/
structure BR (w : World) (h ws : List Int) (wr : World) : Prop where
  b0 : Arr .u32 71 wr w.heap.size h
  b1 : Arr .u32 71 wr (w.heap.size + 1) [0, 0, 0, 0, 0]
  b2 : Arr .u32 101 wr (w.heap.size + 1 + 1) ws
  bel : Below w.heap.size w wr
theorem BR.heap {w wr w' : World} {h ws : List Int} (B : BR w h ws wr) (e : w'.heap = wr.heap) (e1 : w'.os = wr.os) (e2 : w'.tape = wr.tape) (e3 : w'.output = wr.output) : BR w h ws w' :=
  ⟨B.b0.heap e, B.b1.heap e, B.b2.heap e, B.bel.trans ⟨e1, e2, e3, by rw [e]; exact Nat.le_refl _, fun k _ => by rw [e]⟩⟩
theorem BR.w {w wr : World} {h ws : List Int} (B : BR w h ws wr) (j : Nat) (x : Int) : BR w h (ws.set j x) (wr.setCell ⟨w.heap.size + 1 + 1, j, none⟩ (.int .u32 x)) :=
  ⟨B.b0.other (by show w.heap.size + 1 + 1 ≠ w.heap.size; omega) _, B.b1.other (by show w.heap.size + 1 + 1 ≠ w.heap.size + 1; omega) _, B.b2.stored j x, B.bel.setCell (p := ⟨w.heap.size + 1 + 1, j, none⟩) (by show w.heap.size ≤ w.heap.size + 1 + 1; omega) _⟩
theorem set_pad (ws : List Int) (t : Nat) (x : Int) (hl : ws.length = t) (ht : t < 80) : (ws ++ List.replicate (80 - t) 0).set t x = (ws ++ [x]) ++ List.replicate (80 - (t + 1)) 0 := by
  have e : 80 - t = (80 - (t + 1)) + 1 := by omega
  rw [List.set_append_right _ _ (by omega), hl, Nat.sub_self, e, List.replicate_succ]
  simp
/-- what lies in a cell -/
def tv (w : World) (b t : Nat) : Value := (w.cell? ⟨b, t, none⟩).getD undef
theorem tv_of {w : World} {b t : Nat} {v : Value} (h : w.cell? ⟨b, t, none⟩ = some v) : w.cell? ⟨b, t, none⟩ = some (tv w b t) := by unfold tv; rw [h]; rfl
/-- what region 7 reads, and what it writes -/
def S7 (g q3 q8 q14 q16 t : Nat) (x3 x8 x14 x16 : Int) (w' : World) : Prop :=
  w'.cell? ⟨g, q3, none⟩ = some (.int .u32 x3) ∧ w'.cell? ⟨g, q8, none⟩ = some (.int .u32 x8) ∧ w'.cell? ⟨g, q14, none⟩ = some (.int .u32 x14) ∧
    w'.cell? ⟨g, q16, none⟩ = some (.int .u32 x16) ∧ w'.cell? ⟨g, t, none⟩ = some (tv w' g t) ∧ w'.frozen? ⟨g, t, none⟩ = false
section
variable {g q3 q8 q14 q16 t : Nat} {x3 x8 x14 x16 : Int} {w' : World}
theorem S7.drew (h : S7 g q3 q8 q14 q16 t x3 x8 x14 x16 w') : S7 g q3 q8 q14 q16 t x3 x8 x14 x16 w'.drew := h
theorem S7.drewN (j : Nat) (h : S7 g q3 q8 q14 q16 t x3 x8 x14 x16 w') : S7 g q3 q8 q14 q16 t x3 x8 x14 x16 (w'.drewN j) := h
theorem S7.store (h3 : q3 ≠ t) (h8 : q8 ≠ t) (h14 : q14 ≠ t) (h16 : q16 ≠ t) (y : Value) (h : S7 g q3 q8 q14 q16 t x3 x8 x14 x16 w') : S7 g q3 q8 q14 q16 t x3 x8 x14 x16 (w'.setCell ⟨g, t, none⟩ y) := by
  obtain ⟨a, b, c, d, e, f⟩ := h
  have k3 : ¬ q3 = t := h3
  have k8 : ¬ q8 = t := h8
  have k14 : ¬ q14 = t := h14
  have k16 : ¬ q16 = t := h16
  refine ⟨?_, ?_, ?_, ?_, ?_, ?_⟩
  · go_simp
  · go_simp
  · go_simp
  · go_simp
  · exact tv_of (v := y) (by go_simp)
  · go_simp
end
/-- the number in a cell -/
def tn (w : World) (g i : Nat) : Int := match w.cell? ⟨g, i, none⟩ with
  | some (.int _ z) => z
  | _ => 0
theorem tn_val {w : World} {g i : Nat} {k : IntKind} {z : Int} (h : w.cell? ⟨g, i, none⟩ = some (.int k z)) : tn w g i = z := by unfold tn; rw [h]
theorem tn_of {w : World} {g i : Nat} {k : IntKind} {z : Int} (h : w.cell? ⟨g, i, none⟩ = some (.int k z)) : w.cell? ⟨g, i, none⟩ = some (.int k (tn w g i)) := by rw [tn_val h, h]
/-- five numbers that may be read and written -/
def S21 (g : Nat) (w' : World) : Prop :=
  w'.cell? ⟨g, 0, none⟩ = some (.int .u32 (tn w' g 0)) ∧ w'.cell? ⟨g, 1, none⟩ = some (.int .u32 (tn w' g 1)) ∧ w'.cell? ⟨g, 2, none⟩ = some (.int .u32 (tn w' g 2)) ∧ w'.cell? ⟨g, 3, none⟩ = some (.int .u32 (tn w' g 3)) ∧ w'.cell? ⟨g, 4, none⟩ = some (.int .u32 (tn w' g 4)) ∧
    w'.frozen? ⟨g, 0, none⟩ = false ∧ w'.frozen? ⟨g, 1, none⟩ = false ∧ w'.frozen? ⟨g, 2, none⟩ = false ∧ w'.frozen? ⟨g, 3, none⟩ = false ∧ w'.frozen? ⟨g, 4, none⟩ = false
section
variable {g : Nat} {w' : World}
theorem S21.mk {z0 z1 z2 z3 z4 : Int} (c0 : w'.cell? ⟨g, 0, none⟩ = some (.int .u32 z0)) (c1 : w'.cell? ⟨g, 1, none⟩ = some (.int .u32 z1)) (c2 : w'.cell? ⟨g, 2, none⟩ = some (.int .u32 z2)) (c3 : w'.cell? ⟨g, 3, none⟩ = some (.int .u32 z3)) (c4 : w'.cell? ⟨g, 4, none⟩ = some (.int .u32 z4))
    (f0 : w'.frozen? ⟨g, 0, none⟩ = false) (f1 : w'.frozen? ⟨g, 1, none⟩ = false) (f2 : w'.frozen? ⟨g, 2, none⟩ = false) (f3 : w'.frozen? ⟨g, 3, none⟩ = false) (f4 : w'.frozen? ⟨g, 4, none⟩ = false) : S21 g w' :=
  ⟨tn_of c0, tn_of c1, tn_of c2, tn_of c3, tn_of c4, f0, f1, f2, f3, f4⟩
theorem S21.drew (h : S21 g w') : S21 g w'.drew := h
theorem S21.drewN (j : Nat) (h : S21 g w') : S21 g (w'.drewN j) := h
theorem S21.store (y0 y1 y2 y3 y4 : Int) (h : S21 g w') : S21 g (((((w'.setCell ⟨g, 0, none⟩ (.int .u32 y0)).setCell ⟨g, 1, none⟩ (.int .u32 y1)).setCell ⟨g, 2, none⟩ (.int .u32 y2)).setCell ⟨g, 3, none⟩ (.int .u32 y3)).setCell ⟨g, 4, none⟩ (.int .u32 y4)) := by
  obtain ⟨a, b, c, d, e, f0, f1, f2, f3, f4⟩ := h
  refine S21.mk (z0 := y0) (z1 := y1) (z2 := y2) (z3 := y3) (z4 := y4) ?_ ?_ ?_ ?_ ?_ ?_ ?_ ?_ ?_ ?_ <;> go_simp
end
/-- the blocks, the five numbers that go round among them -/
structure BX (w : World) (g : Nat) (h ws xs : List Int) (wr : World) : Prop where
  b0 : Arr .u32 71 wr w.heap.size h
  b1 : Arr .u32 71 wr (w.heap.size + 1) [0, 0, 0, 0, 0]
  b2 : Arr .u32 101 wr (w.heap.size + 1 + 1) ws
  b3 : Arr .u32 71 wr g xs
  lt : w.heap.size + 1 + 1 < g
  bel : Below w.heap.size w wr
theorem BX.heap {w wr w' : World} {g : Nat} {h ws xs : List Int} (B : BX w g h ws xs wr) (e : w'.heap = wr.heap) (e1 : w'.os = wr.os) (e2 : w'.tape = wr.tape) (e3 : w'.output = wr.output) : BX w g h ws xs w' :=
  ⟨B.b0.heap e, B.b1.heap e, B.b2.heap e, B.b3.heap e, B.lt, B.bel.trans ⟨e1, e2, e3, by rw [e]; exact Nat.le_refl _, fun k _ => by rw [e]⟩⟩
theorem BX.x {w wr : World} {g : Nat} {h ws xs : List Int} (B : BX w g h ws xs wr) (j : Nat) (x : Int) : BX w g h ws (xs.set j x) (wr.setCell ⟨g, j, none⟩ (.int .u32 x)) := by
  have hg := B.lt
  exact ⟨B.b0.other (by show g ≠ w.heap.size; omega) _, B.b1.other (by show g ≠ w.heap.size + 1; omega) _, B.b2.other (by show g ≠ w.heap.size + 1 + 1; omega) _, B.b3.stored j x, hg, B.bel.setCell (p := ⟨g, j, none⟩) (by show w.heap.size ≤ g; omega) _⟩
theorem BX.cast {w wr : World} {g : Nat} {h ws xs ys : List Int} (e : xs = ys) (B : BX w g h ws xs wr) : BX w g h ws ys wr := e ▸ B
theorem BX.h {w wr : World} {g : Nat} {h ws xs : List Int} (B : BX w g h ws xs wr) (j : Nat) (x : Int) : BX w g (h.set j x) ws xs (wr.setCell ⟨w.heap.size, j, none⟩ (.int .u32 x)) := by
  have hg := B.lt
  exact ⟨B.b0.stored j x, B.b1.other (by show w.heap.size ≠ w.heap.size + 1; omega) _, B.b2.other (by show w.heap.size ≠ w.heap.size + 1 + 1; omega) _, B.b3.other (by show w.heap.size ≠ g; omega) _, hg, B.bel.setCell (p := ⟨w.heap.size, j, none⟩) (Nat.le_refl _) _⟩
/-- five numbers, and what was there stands -/
def BlkRet (w : World) (h bs : List Int) (e : Ending) (w' : World) : Prop := e = .returned (.agg ((blk h bs).map (Value.int .u32)).toArray) ∧ Below w.heap.size w w'
/-- the first k of the five added -/
def mixL (h x : List Int) (k : Nat) : List Int := (List.zipWith ad h x).take k ++ h.drop k
set_option maxRecDepth 100000 in
set_option maxHeartbeats 1000000 in
theorem block_any (h0 h1 h2 h3 h4 : Int) (A : Option Addr) (c : Nat) (bs : List Int) (w : World) (hb : Nums .u8 w w.heap.size A 64 bs) (hy : ∀ x ∈ bs, Byte x)
    (g0 : W32 h0) (g1 : W32 h1) (g2 : W32 h2) (g3 : W32 h3) (g4 : W32 h4) :
    Calls Try.prog 56 #[.agg #[.int .u32 h0, .int .u32 h1, .int .u32 h2, .int .u32 h3, .int .u32 h4], .slice A 64 c] w (BlkRet w [h0, h1, h2, h3, h4] bs) := by
  obtain ⟨Z, hZ⟩ : ∃ Z, Z = ((List.replicate 80 (0 : Int)).map (Value.int .u32)).toArray := ⟨_, rfl⟩
  have hzv := zero80
  rw [← hZ] at hzv
  have HZ := Lib.hid hZ
  clear hZ
  go_enter Try.func56, Try.ntmps56
  go_wp2_with fail
  go_loopw [6] (fun i wr => ∃ t : Nat, t ≤ 80 ∧ i = .int .i64 t ∧ BR w [h0, h1, h2, h3, h4] (sched bs t ++ List.replicate (80 - t) 0) wr) (fun i _ => 80 - (intOf i).toNat)
  case atStart =>
    refine ⟨0, by omega, rfl, ?_, ?_, ?_, ?_⟩
    · exact (((Arr.new w .u32 71 [h0, h1, h2, h3, h4]).alloc _).alloc _)
    · have := ((Arr.new (w.alloc (.cells ([h0, h1, h2, h3, h4].map (Value.int .u32)).toArray 71)) .u32 71 [0, 0, 0, 0, 0]).alloc (.cells Z 101))
      rw [alloc_size] at this; exact this
    · have := Arr.new ((w.alloc (.cells ([h0, h1, h2, h3, h4].map (Value.int .u32)).toArray 71)).alloc (.cells (([0, 0, 0, 0, 0] : List Int).map (Value.int .u32)).toArray 71)) .u32 101 (List.replicate 80 0)
      rw [alloc_size, alloc_size, ← HZ.out] at this; exact this
    · exact (((Below.refl _ _).alloc (Nat.le_refl _) _).alloc (by simp) _).alloc (by simp; omega) _
  case round =>
    obtain ⟨t, ht, rfl, BB⟩ := hrel
    have HB := Lib.hid BB
    by_cases hlt : t < 80
    · by_cases h16 : t < 16
      · obtain ⟨p, hp⟩ : ∃ p, p = 4 * t := ⟨_, rfl⟩
        have hpz : (4 : Int) * (t : Int) = (p : Int) := by omega
        have hp60 : p ≤ 60 := by omega
        have HP := Lib.hid hp
        clear hp
        have hLb := hb.len
        obtain ⟨b, o, rfl, hbb, hcA⟩ := hb.at_ (by omega)
        have cc0 : wr.cell? ⟨b, o + p, none⟩ = some (.int .u8 (bs.getD p 0)) := (HB.out.bel.cell (p := ⟨b, o + p, none⟩) hbb).trans (hcA p (by omega))
        have cc1 : wr.cell? ⟨b, o + (p + 1), none⟩ = some (.int .u8 (bs.getD (p + 1) 0)) := (HB.out.bel.cell (p := ⟨b, o + (p + 1), none⟩) hbb).trans (hcA (p + 1) (by omega))
        have cc2 : wr.cell? ⟨b, o + (p + 2), none⟩ = some (.int .u8 (bs.getD (p + 2) 0)) := (HB.out.bel.cell (p := ⟨b, o + (p + 2), none⟩) hbb).trans (hcA (p + 2) (by omega))
        have cc3 : wr.cell? ⟨b, o + (p + 3), none⟩ = some (.int .u8 (bs.getD (p + 3) 0)) := (HB.out.bel.cell (p := ⟨b, o + (p + 3), none⟩) hbb).trans (hcA (p + 3) (by omega))
        have y0 := getD_byte hy (k := p) (by omega)
        have y1 := getD_byte hy (k := p + 1) (by omega)
        have y2 := getD_byte hy (k := p + 2) (by omega)
        have y3 := getD_byte hy (k := p + 3) (by omega)
        have hw0 := BB.b2.cell (j := t) (by simp [sched_len]; omega)
        have hf0 := BB.b2.frozen t
        obtain ⟨v, hv⟩ : ∃ v, v = (sched bs t ++ List.replicate (80 - t) 0).getD t 0 := ⟨_, rfl⟩
        rw [← hv] at hw0
        have HT := Lib.hid (show sched bs (t + 1) = sched bs t ++ [bs.getD p 0 * 16777216 + bs.getD (p + 1) 0 * 65536 + bs.getD (p + 2) 0 * 256 + bs.getD (p + 3) 0] by
          rw [sched, nextW, if_pos h16, word, ← HP.out])
        generalize bs.getD p 0 = x0 at *
        generalize bs.getD (p + 1) 0 = x1 at *
        generalize bs.getD (p + 2) 0 = x2 at *
        generalize bs.getD (p + 3) 0 = x3 at *
        obtain ⟨y00, y01⟩ := y0
        obtain ⟨y10, y11⟩ := y1
        obtain ⟨y20, y21⟩ := y2
        obtain ⟨y30, y31⟩ := y3
        have HBn := Lib.hid hb
        clear hv BB hcA hb hLb
        go_upto_region 6 with fail
        have i1 : IntKind.i64.wrap ((p : Int) + 1) = (p : Int) + 1 := IntWalk.i64_in _ (by omega)
        have i2 : IntKind.i64.wrap ((p : Int) + 2) = (p : Int) + 2 := IntWalk.i64_in _ (by omega)
        have i3 : IntKind.i64.wrap ((p : Int) + 3) = (p : Int) + 3 := IntWalk.i64_in _ (by omega)
        have i0 : IntKind.i64.wrap (p : Int) = (p : Int) := IntWalk.i64_in _ (by omega)
        have j1 : (0 : Int) ≤ (p : Int) + 1 := by omega
        have j2 : (0 : Int) ≤ (p : Int) + 2 := by omega
        have j3 : (0 : Int) ≤ (p : Int) + 3 := by omega
        have k1 : ((p : Int) + 1).toNat = p + 1 := by omega
        have k2 : ((p : Int) + 2).toNat = p + 2 := by omega
        have k3 : ((p : Int) + 3).toNat = p + 3 := by omega
        have l0 : (p : Int) < 64 := by omega
        have l1 : (p : Int) + 1 < 64 := by omega
        have l2 : (p : Int) + 2 < 64 := by omega
        have l3 : (p : Int) + 3 < 64 := by omega
        have m0 : IntKind.u32.wrap x0 = x0 := IntWalk.u32_in _ (by omega)
        have m1 : IntKind.u32.wrap x1 = x1 := IntWalk.u32_in _ (by omega)
        have m2 : IntKind.u32.wrap x2 = x2 := IntWalk.u32_in _ (by omega)
        have m3 : IntKind.u32.wrap x3 = x3 := IntWalk.u32_in _ (by omega)
        have s0 : IntKind.u32.wrap (x0 * 16777216) = x0 * 16777216 := IntWalk.u32_in _ (by omega)
        have s1 : IntKind.u32.wrap (x1 * 65536) = x1 * 65536 := IntWalk.u32_in _ (by omega)
        have s2 : IntKind.u32.wrap (x2 * 256) = x2 * 256 := IntWalk.u32_in _ (by omega)
        have n1 : IntKind.u32.wrap (x0 * 16777216 + x1 * 65536) = x0 * 16777216 + x1 * 65536 := IntWalk.u32_in _ (by omega)
        have n2 : IntKind.u32.wrap (x0 * 16777216 + x1 * 65536 + x2 * 256) = x0 * 16777216 + x1 * 65536 + x2 * 256 := IntWalk.u32_in _ (by omega)
        have n3 : IntKind.u32.wrap (x0 * 16777216 + x1 * 65536 + x2 * 256 + x3) = x0 * 16777216 + x1 * 65536 + x2 * 256 + x3 := IntWalk.u32_in _ (by omega)
        go_still_tail 34, (by kernel_rfl)
        change wpList _ _ _ _ _ wr.drew
        clear i1 i2 i3 i0 j1 j2 j3 k1 k2 k3 l0 l1 l2 l3 m0 m1 m2 m3 s0 s1 s2 n1 n2 n3
        go_wp2_with fail
        go_roundw
        case rel =>
          refine ⟨t + 1, by omega, by go_num, ?_⟩
          rw [HT.out, ← set_pad _ t _ (sched_len bs t) hlt]
          exact (HB.out.w t _).heap rfl rfl rfl rfl
        case measure => simp [intOf]; omega
      · have hg : ∀ q, 1 ≤ q → q ≤ t → (sched bs t ++ List.replicate (80 - t) 0).getD (t - q) 0 = (sched bs t).getD (t - q) 0 := fun q h1 h2 => by
          rw [List.getD_eq_getElem?_getD, List.getD_eq_getElem?_getD, List.getElem?_append_left (by rw [sched_len]; omega)]
        have hl80 : (sched bs t ++ List.replicate (80 - t) 0).length = 80 := by simp [sched_len]; omega
        have c3 := BB.b2.cell (j := t - 3) (by omega)
        have c8 := BB.b2.cell (j := t - 8) (by omega)
        have c14 := BB.b2.cell (j := t - 14) (by omega)
        have c16 := BB.b2.cell (j := t - 16) (by omega)
        rw [hg 3 (by omega) (by omega)] at c3
        rw [hg 8 (by omega) (by omega)] at c8
        rw [hg 14 (by omega) (by omega)] at c14
        rw [hg 16 (by omega) (by omega)] at c16
        have hw0 := BB.b2.cell (j := t) (by omega)
        have hf0 := BB.b2.frozen t
        obtain ⟨v, hv⟩ : ∃ v, v = (sched bs t ++ List.replicate (80 - t) 0).getD t 0 := ⟨_, rfl⟩
        rw [← hv] at hw0
        have HT := Lib.hid (show sched bs (t + 1) = sched bs t ++ [rol (xo (xo (xo ((sched bs t).getD (t - 3) 0) ((sched bs t).getD (t - 8) 0)) ((sched bs t).getD (t - 14) 0)) ((sched bs t).getD (t - 16) 0)) 1] by
          rw [sched, nextW, if_neg h16])
        generalize (sched bs t).getD (t - 3) 0 = x3 at *
        generalize (sched bs t).getD (t - 8) 0 = x8 at *
        generalize (sched bs t).getD (t - 14) 0 = x14 at *
        generalize (sched bs t).getD (t - 16) 0 = x16 at *
        have RR := Lib.hid (fun w => round_any (xo (xo (xo x3 x8) x14) x16) 1 w (w32_xo _ _) (by omega) (by omega))
        have HBn := Lib.hid hb
        clear hv BB hb hg hl80
        go_upto_region 7 with fail
        obtain ⟨q3, e3⟩ : ∃ q, q = t - 3 := ⟨_, rfl⟩
        rw [← e3] at c3
        have z3 : (t : Int) - 3 = (q3 : Int) := by omega
        have i3 : IntKind.i64.wrap (q3 : Int) = (q3 : Int) := IntWalk.i64_in _ (by omega)
        have l3 : (q3 : Int) < 80 := by omega
        have n3 : q3 < 80 := by omega
        have d3 : q3 ≠ t := by omega
        obtain ⟨q8, e8⟩ : ∃ q, q = t - 8 := ⟨_, rfl⟩
        rw [← e8] at c8
        have z8 : (t : Int) - 8 = (q8 : Int) := by omega
        have i8 : IntKind.i64.wrap (q8 : Int) = (q8 : Int) := IntWalk.i64_in _ (by omega)
        have l8 : (q8 : Int) < 80 := by omega
        have n8 : q8 < 80 := by omega
        have d8 : q8 ≠ t := by omega
        obtain ⟨q14, e14⟩ : ∃ q, q = t - 14 := ⟨_, rfl⟩
        rw [← e14] at c14
        have z14 : (t : Int) - 14 = (q14 : Int) := by omega
        have i14 : IntKind.i64.wrap (q14 : Int) = (q14 : Int) := IntWalk.i64_in _ (by omega)
        have l14 : (q14 : Int) < 80 := by omega
        have n14 : q14 < 80 := by omega
        have d14 : q14 ≠ t := by omega
        obtain ⟨q16, e16⟩ : ∃ q, q = t - 16 := ⟨_, rfl⟩
        rw [← e16] at c16
        have z16 : (t : Int) - 16 = (q16 : Int) := by omega
        have i16 : IntKind.i64.wrap (q16 : Int) = (q16 : Int) := IntWalk.i64_in _ (by omega)
        have l16 : (q16 : Int) < 80 := by omega
        have n16 : q16 < 80 := by omega
        have d16 : q16 ≠ t := by omega
        clear e3 e8 e14 e16
        have HS : S7 (w.heap.size + 1 + 1) q3 q8 q14 q16 t x3 x8 x14 x16 wr := ⟨c3, c8, c14, c16, tv_of hw0, hf0⟩
        clear c3 c8 c14 c16 hw0 hf0
        go_region_held3 (fun w' => w'.cell? ⟨w.heap.size + 1 + 1, q3, none⟩ = some (.int .u32 x3) ∧ w'.cell? ⟨w.heap.size + 1 + 1, q8, none⟩ = some (.int .u32 x8) ∧ w'.cell? ⟨w.heap.size + 1 + 1, q14, none⟩ = some (.int .u32 x14) ∧
            w'.cell? ⟨w.heap.size + 1 + 1, q16, none⟩ = some (.int .u32 x16) ∧ w'.cell? ⟨w.heap.size + 1 + 1, t, none⟩ = some (tv w' (w.heap.size + 1 + 1) t) ∧ w'.frozen? ⟨w.heap.size + 1 + 1, t, none⟩ = false)
          (first | exact S7.drew HS | exact S7.drewN _ (by assumption) | exact S7.store d3 d8 d14 d16 _ (by assumption) | go_keep)
          (first
            | (go_at_call 70; refine (RR.out _).mono ?_; rintro e w1 ⟨rfl, j, rfl⟩))
        clear i3 i8 i14 i16 z3 z8 z14 z16 l3 l8 l14 l16 n3 n8 n14 n16
        go_wp2_with fail
        go_roundw
        case rel =>
          refine ⟨t + 1, by omega, by go_num, ?_⟩
          rw [HT.out, ← set_pad _ t _ (sched_len bs t) hlt]
          exact (HB.out.heap (w' := wr.drewN (1 + j)) rfl rfl rfl rfl).w t _
        case measure => simp [intOf]; omega
    · have e : t = 80 := by omega
      subst e
      have HBn := Lib.hid hb
      have q0 := BB.b0.cell (j := 0) (by simp)
      have q1 := BB.b0.cell (j := 1) (by simp)
      have q2 := BB.b0.cell (j := 2) (by simp)
      have q3 := BB.b0.cell (j := 3) (by simp)
      have q4 := BB.b0.cell (j := 4) (by simp)
      have sz := BB.b2.lt
      have X0 : BX w wr.heap.size [h0, h1, h2, h3, h4] (sched bs 80) [h0, h1, h2, h3, h4] (wr.alloc (.cells #[.int .u32 h0, .int .u32 h1, .int .u32 h2, .int .u32 h3, .int .u32 h4] 71)) := by
        have e : sched bs 80 ++ List.replicate (80 - 80) 0 = sched bs 80 := by simp
        rw [e] at BB
        exact ⟨BB.b0.alloc _, BB.b1.alloc _, BB.b2.alloc _, Arr.new wr .u32 71 [h0, h1, h2, h3, h4], sz, BB.bel.alloc (by omega) _⟩
      clear BB hb hlt HB
      go_upto_region 9 with fail
      clear q0 q1 q2 q3 q4 sz
      generalize (wr.alloc (.cells #[.int .u32 h0, .int .u32 h1, .int .u32 h2, .int .u32 h3, .int .u32 h4] 71)) = w9 at *
      generalize wr.heap.size = g at *
      clear hzv HZ Z
      go_wp2_with fail
      go_loopw [8] (fun i wx => ∃ t : Nat, t ≤ 80 ∧ i = .int .i64 t ∧ BX w g [h0, h1, h2, h3, h4] (sched bs 80) (steps (sched bs 80) [h0, h1, h2, h3, h4] t) wx) (fun i _ => 80 - (intOf i).toNat)
      case atStart => exact ⟨0, by omega, rfl, X0⟩
      case round =>
        obtain ⟨t, ht, rfl, BB⟩ := hrel
        have HB := Lib.hid BB
        by_cases hlt : t < 80
        · have hS := steps_w32 (ws := sched bs 80) (h := [h0, h1, h2, h3, h4]) rfl (by simp; exact ⟨g0, g1, g2, g3, g4⟩) t
          obtain ⟨x0, x1, x2, x3, x4, hx⟩ := list5 (steps_len (ws := sched bs 80) (h := [h0, h1, h2, h3, h4]) rfl t)
          rw [hx] at hS BB
          have HX := Lib.hid hx
          have k0 := hS x0 (by simp)
          have k1 := hS x1 (by simp)
          have k2 := hS x2 (by simp)
          have k3 := hS x3 (by simp)
          have k4 := hS x4 (by simp)
          have c0 := BB.b3.cell (j := 0) (by simp)
          have c1 := BB.b3.cell (j := 1) (by simp)
          have c2 := BB.b3.cell (j := 2) (by simp)
          have c3 := BB.b3.cell (j := 3) (by simp)
          have c4 := BB.b3.cell (j := 4) (by simp)
          have cw := BB.b2.cell (j := t) (by rw [sched_len]; exact hlt)
          have f0 := BB.b3.frozen 0
          have f1 := BB.b3.frozen 1
          have f2 := BB.b3.frozen 2
          have f3 := BB.b3.frozen 3
          have f4 := BB.b3.frozen 4
          have kw : W32 ((sched bs 80).getD t 0) := by
            rw [List.getD_eq_getElem?_getD, List.getElem?_eq_getElem (by rw [sched_len]; exact hlt)]
            exact sched_w32 hy HBn.out.len 80 _ (List.getElem_mem _)
          simp only [List.getD_cons_zero, List.getD_cons_succ] at c0 c1 c2 c3 c4
          obtain ⟨y, hyw⟩ : ∃ y, y = (sched bs 80).getD t 0 := ⟨_, rfl⟩
          rw [← hyw] at cw kw
          have HY := Lib.hid hyw
          have HT := Lib.hid (step_eq HX.out HY.out)
          have R0 := Lib.hid (fun w => round_any x0 5 w k0 (by omega) (by omega))
          have R1 := Lib.hid (fun w => round_any x1 30 w k1 (by omega) (by omega))
          obtain ⟨k00, k01⟩ := k0
          obtain ⟨k10, k11⟩ := k1
          obtain ⟨k20, k21⟩ := k2
          obtain ⟨k30, k31⟩ := k3
          obtain ⟨k40, k41⟩ := k4
          obtain ⟨kw0, kw1⟩ := kw
          have hl4 : (t : Int) < 80 := by omega
          clear hS hx hyw BB
          rcases (show t / 20 = 0 ∨ t / 20 = 1 ∨ t / 20 = 2 ∨ t / 20 = 3 by omega) with hc | hc | hc | hc
          all_goals
            first
            | (have hz : (t : Int) / 20 = 0 := by omega)
            | (have hz : (t : Int) / 20 = 1 := by omega)
            | (have hz : (t : Int) / 20 = 2 := by omega)
            | (have hz : (t : Int) / 20 = 3 := by omega)
            have HC := Lib.hid hc
            clear hc
            go_upto_region 20 with fail
            go_quiet ((go_at_call 70; exact Calls.quiet_of (R0.out _)))
            go_upto_region 21 with fail
            have HB2 : BX w g [h0, h1, h2, h3, h4] (sched bs 80) (steps (sched bs 80) [h0, h1, h2, h3, h4] t) (wr.drewN nq) := HB.out.heap rfl rfl rfl rfl
            rw [← World.cell?_drewN (w := wr) (n := nq)] at c0 c1 c2 c3 c4
            rw [← World.frozen?_drewN (w := wr) (n := nq)] at f0 f1 f2 f3 f4
            rw [HX.out] at HB2
            clear cw
            generalize wr.drewN nq = w20 at *
            refine Go.Proofs.Ythbgjjfhgbkbdaa.lastC.wp_region_last 11 (by kernel_rfl) (by kernel_rfl) (by kernel_rfl) (by kernel_rfl) ?_
            simp only [List.take_succ_cons, List.take_zero, List.drop_succ_cons, List.drop_zero]
            repeat (first | go_big_quiet_step ((go_at_call 70; exact Calls.quiet_of (R1.out _))) | quiet_step ((go_at_call 70; exact Calls.quiet_of (R1.out _))))
            refine wpQuiet_nil ?_
            intro w2 hw2
            obtain ⟨n2, hw3⟩ := hw2
            subst hw3
            go_wp2_with fail
            go_roundw
            case rel =>
              refine ⟨t + 1, by omega, by go_num, BX.cast ?_ ((((((HB2.heap (w' := w20.drewN n2) rfl rfl rfl rfl).x 0 _).x 1 _).x 2 _).x 3 _).x 4 _)⟩
              rw [HT.out]
              simp only [List.set_cons_zero, List.set_cons_succ]
              congr 1
              simp only [fN, kN, HC.out, ad, ro, an, nt, xo]
              first
              | (simp [IntKind.signed]; done)
              | (simp; done)
              | (simp [IntKind.signed]; omega)
            case measure => simp [intOf]; omega
        · have e : t = 80 := by omega
          subst e
          have hS := steps_w32 (ws := sched bs 80) (h := [h0, h1, h2, h3, h4]) rfl (by simp; exact ⟨g0, g1, g2, g3, g4⟩) 80
          obtain ⟨x0, x1, x2, x3, x4, hx⟩ := list5 (steps_len (ws := sched bs 80) (h := [h0, h1, h2, h3, h4]) rfl 80)
          rw [hx] at hS BB
          have HX := Lib.hid hx
          have X1 := BB
          clear BB HB hlt hx X0
          have k0 := hS x0 (by simp)
          have k1 := hS x1 (by simp)
          have k2 := hS x2 (by simp)
          have k3 := hS x3 (by simp)
          have k4 := hS x4 (by simp)
          clear hS
          go_wp2_with fail
          go_loopw [12] (fun i wy => ∃ k : Nat, k ≤ 5 ∧ i = .int .i64 k ∧ BX w g (mixL [h0, h1, h2, h3, h4] [x0, x1, x2, x3, x4] k) (sched bs 80) [x0, x1, x2, x3, x4] wy) (fun i _ => 5 - (intOf i).toNat)
          case atStart => exact ⟨0, by omega, rfl, X1⟩
          case round =>
            obtain ⟨k, hk, rfl, BB⟩ := hrel
            by_cases hlt : k < 5
            · have HB := Lib.hid BB
              rcases (show k = 0 ∨ k = 1 ∨ k = 2 ∨ k = 3 ∨ k = 4 by omega) with rfl | rfl | rfl | rfl | rfl
              · have cx : wr.cell? ⟨g, 0, none⟩ = some (.int .u32 x0) := BB.b3.cell (j := 0) (by simp)
                have ch : wr.cell? ⟨w.heap.size, 0, none⟩ = some (.int .u32 h0) := BB.b0.cell (j := 0) (by simp [mixL])
                have fh := BB.b0.frozen 0
                clear BB
                go_upto_region 25 with fail
                refine Go.Proofs.Ythbgjjfhgbkbdaa.lastC.wp_region_last 8 (by kernel_rfl) (by kernel_rfl) (by kernel_rfl) (by kernel_rfl) ?_
                simp only [List.take_succ_cons, List.take_zero, List.drop_succ_cons, List.drop_zero]
                repeat (first | go_big_quiet_step (fail) | quiet_step (fail))
                refine wpQuiet_nil ?_
                intro w2 hw2
                obtain ⟨n2, hw3⟩ := hw2
                subst hw3
                go_wp2_with fail
                go_roundw
                case rel => exact ⟨0 + 1, by omega, by go_num, (HB.out.heap (w' := wr.drewN n2) rfl rfl rfl rfl).h 0 _⟩
                case measure => simp [intOf]
              · have cx : wr.cell? ⟨g, 1, none⟩ = some (.int .u32 x1) := BB.b3.cell (j := 1) (by simp)
                have ch : wr.cell? ⟨w.heap.size, 1, none⟩ = some (.int .u32 h1) := BB.b0.cell (j := 1) (by simp [mixL])
                have fh := BB.b0.frozen 1
                clear BB
                go_upto_region 25 with fail
                refine Go.Proofs.Ythbgjjfhgbkbdaa.lastC.wp_region_last 8 (by kernel_rfl) (by kernel_rfl) (by kernel_rfl) (by kernel_rfl) ?_
                simp only [List.take_succ_cons, List.take_zero, List.drop_succ_cons, List.drop_zero]
                repeat (first | go_big_quiet_step (fail) | quiet_step (fail))
                refine wpQuiet_nil ?_
                intro w2 hw2
                obtain ⟨n2, hw3⟩ := hw2
                subst hw3
                go_wp2_with fail
                go_roundw
                case rel => exact ⟨1 + 1, by omega, by go_num, (HB.out.heap (w' := wr.drewN n2) rfl rfl rfl rfl).h 1 _⟩
                case measure => simp [intOf]
              · have cx : wr.cell? ⟨g, 2, none⟩ = some (.int .u32 x2) := BB.b3.cell (j := 2) (by simp)
                have ch : wr.cell? ⟨w.heap.size, 2, none⟩ = some (.int .u32 h2) := BB.b0.cell (j := 2) (by simp [mixL])
                have fh := BB.b0.frozen 2
                clear BB
                go_upto_region 25 with fail
                refine Go.Proofs.Ythbgjjfhgbkbdaa.lastC.wp_region_last 8 (by kernel_rfl) (by kernel_rfl) (by kernel_rfl) (by kernel_rfl) ?_
                simp only [List.take_succ_cons, List.take_zero, List.drop_succ_cons, List.drop_zero]
                repeat (first | go_big_quiet_step (fail) | quiet_step (fail))
                refine wpQuiet_nil ?_
                intro w2 hw2
                obtain ⟨n2, hw3⟩ := hw2
                subst hw3
                go_wp2_with fail
                go_roundw
                case rel => exact ⟨2 + 1, by omega, by go_num, (HB.out.heap (w' := wr.drewN n2) rfl rfl rfl rfl).h 2 _⟩
                case measure => simp [intOf]
              · have cx : wr.cell? ⟨g, 3, none⟩ = some (.int .u32 x3) := BB.b3.cell (j := 3) (by simp)
                have ch : wr.cell? ⟨w.heap.size, 3, none⟩ = some (.int .u32 h3) := BB.b0.cell (j := 3) (by simp [mixL])
                have fh := BB.b0.frozen 3
                clear BB
                go_upto_region 25 with fail
                refine Go.Proofs.Ythbgjjfhgbkbdaa.lastC.wp_region_last 8 (by kernel_rfl) (by kernel_rfl) (by kernel_rfl) (by kernel_rfl) ?_
                simp only [List.take_succ_cons, List.take_zero, List.drop_succ_cons, List.drop_zero]
                repeat (first | go_big_quiet_step (fail) | quiet_step (fail))
                refine wpQuiet_nil ?_
                intro w2 hw2
                obtain ⟨n2, hw3⟩ := hw2
                subst hw3
                go_wp2_with fail
                go_roundw
                case rel => exact ⟨3 + 1, by omega, by go_num, (HB.out.heap (w' := wr.drewN n2) rfl rfl rfl rfl).h 3 _⟩
                case measure => simp [intOf]
              · have cx : wr.cell? ⟨g, 4, none⟩ = some (.int .u32 x4) := BB.b3.cell (j := 4) (by simp)
                have ch : wr.cell? ⟨w.heap.size, 4, none⟩ = some (.int .u32 h4) := BB.b0.cell (j := 4) (by simp [mixL])
                have fh := BB.b0.frozen 4
                clear BB
                go_upto_region 25 with fail
                refine Go.Proofs.Ythbgjjfhgbkbdaa.lastC.wp_region_last 8 (by kernel_rfl) (by kernel_rfl) (by kernel_rfl) (by kernel_rfl) ?_
                simp only [List.take_succ_cons, List.take_zero, List.drop_succ_cons, List.drop_zero]
                repeat (first | go_big_quiet_step (fail) | quiet_step (fail))
                refine wpQuiet_nil ?_
                intro w2 hw2
                obtain ⟨n2, hw3⟩ := hw2
                subst hw3
                go_wp2_with fail
                go_roundw
                case rel => exact ⟨4 + 1, by omega, by go_num, (HB.out.heap (w' := wr.drewN n2) rfl rfl rfl rfl).h 4 _⟩
                case measure => simp [intOf]
            · have e : k = 5 := by omega
              subst e
              have m0 := BB.b0
              have r0 : wr.cell? ⟨w.heap.size, 0, none⟩ = some (.int .u32 (ad h0 x0)) := BB.b0.cell (j := 0) (by simp [mixL])
              have r1 : wr.cell? ⟨w.heap.size, 1, none⟩ = some (.int .u32 (ad h1 x1)) := BB.b0.cell (j := 1) (by simp [mixL])
              have r2 : wr.cell? ⟨w.heap.size, 2, none⟩ = some (.int .u32 (ad h2 x2)) := BB.b0.cell (j := 2) (by simp [mixL])
              have r3 : wr.cell? ⟨w.heap.size, 3, none⟩ = some (.int .u32 (ad h3 x3)) := BB.b0.cell (j := 3) (by simp [mixL])
              have r4 : wr.cell? ⟨w.heap.size, 4, none⟩ = some (.int .u32 (ad h4 x4)) := BB.b0.cell (j := 4) (by simp [mixL])
              have s0 : wr.cell? ⟨w.heap.size + 1, 0, none⟩ = some (.int .u32 0) := BB.b1.cell (j := 0) (by simp)
              have s1 : wr.cell? ⟨w.heap.size + 1, 1, none⟩ = some (.int .u32 0) := BB.b1.cell (j := 1) (by simp)
              have s2 : wr.cell? ⟨w.heap.size + 1, 2, none⟩ = some (.int .u32 0) := BB.b1.cell (j := 2) (by simp)
              have s3 : wr.cell? ⟨w.heap.size + 1, 3, none⟩ = some (.int .u32 0) := BB.b1.cell (j := 3) (by simp)
              have s4 : wr.cell? ⟨w.heap.size + 1, 4, none⟩ = some (.int .u32 0) := BB.b1.cell (j := 4) (by simp)
              have z0 := BB.b1.frozen 0
              have z1 := BB.b1.frozen 1
              have z2 := BB.b1.frozen 2
              have z3 := BB.b1.frozen 3
              have z4 := BB.b1.frozen 4
              have bel := BB.bel
              clear BB m0
              go_wp2_with fail
              refine bodyPost_ret (v := .agg #[.int .u32 (ad h0 x0), .int .u32 (ad h1 x1), .int .u32 (ad h2 x2), .int .u32 (ad h3 x3), .int .u32 (ad h4 x4)]) (by simp [results, Try.results56, go_sem, s0, s1, s2, s3, s4]) rfl ⟨?_, ?_⟩
              · rw [blk, HX.out]; rfl
              · exact ((((bel.setCell (p := ⟨w.heap.size + 1, 0, none⟩) (Nat.le_succ _) _).setCell (p := ⟨w.heap.size + 1, 1, none⟩) (Nat.le_succ _) _).setCell (p := ⟨w.heap.size + 1, 2, none⟩) (Nat.le_succ _) _).setCell (p := ⟨w.heap.size + 1, 3, none⟩) (Nat.le_succ _) _).setCell (p := ⟨w.heap.size + 1, 4, none⟩) (Nat.le_succ _) _
end Go.Proofs.Ythbgjjfhgbkbdaa.shaC

/-
  The document's sha: Of.
-/
namespace Go.Proofs.Ythbgjjfhgbkbdaa.shaC
open Go.ChangeShapes Go.WideShapes Go.ChangeAt Go.RowKit
open Go.Proofs.Ythbgjjfhgbkbdaa.memC Go.Proofs.Ythbgjjfhgbkbdaa.genC Go.Proofs.Ythbgjjfhgbkbdaa.shaM
set_option linter.unusedVariables false
theorem byte_info : (Try.prog.info? 5).map (fun i => (i.zero, i.size, i.bytes)) = some (some (.int .u8 0), 1, 1) := by kernel_rfl
/-- how many bytes 0 fill up -/
def zerosN (n : Nat) : Nat := (119 - n % 64) % 64
theorem zeros_spec (n : Nat) : (n + 1 + zerosN n) % 64 = 56 ∧ zerosN n < 64 := by unfold zerosN; omega
theorem zeros_less {n j : Nat} (h : j < zerosN n) : (n + 1 + j) % 64 ≠ 56 := by unfold zerosN at h; omega
/-- a number's eight bytes, the highest first -/
def lenB (x : Int) : List Int := [x / 72057594037927936 % 256, x / 281474976710656 % 256, x / 1099511627776 % 256, x / 4294967296 % 256, x / 16777216 % 256, x / 65536 % 256, x / 256 % 256, x % 256]
/-- the bytes, filled up -/
def padL (bs : List Int) : List Int := bs ++ 128 :: List.replicate (zerosN bs.length) 0 ++ lenB ((bs.length : Int) * 8)
theorem pad_byte {bs : List Int} (hy : ∀ x ∈ bs, Byte x) : ∀ y ∈ padL bs, Byte y := by
  intro y h
  unfold padL at h
  rcases List.mem_append.1 h with h | h
  · rcases List.mem_append.1 h with h | h
    · exact hy y h
    · rcases List.mem_cons.1 h with rfl | h
      · unfold Byte; omega
      · rw [List.eq_of_mem_replicate h]; unfold Byte; omega
  · unfold lenB at h
    simp only [List.mem_cons, List.not_mem_nil, or_false] at h
    unfold Byte
    rcases h with rfl | rfl | rfl | rfl | rfl | rfl | rfl | rfl <;> omega
def initH : List Int := [1732584193, 4023233417, 2562383102, 271733878, 3285377520]
/-- the five numbers behind k blocks -/
def hashN (p : List Int) : Nat → List Int
  | 0 => initH
  | k + 1 => blk (hashN p k) ((p.drop (64 * k)).take 64)
theorem w32_zip : ∀ (a b : List Int), ∀ x ∈ List.zipWith ad a b, W32 x
  | [], _, x, h => by simp at h
  | _ :: _, [], x, h => by simp at h
  | a :: r, b :: s, x, h => by
    simp only [List.zipWith_cons_cons, List.mem_cons] at h
    rcases h with rfl | h
    · exact w32_ad _ _
    · exact w32_zip r s x h
theorem hash_ok (p : List Int) : ∀ k, (hashN p k).length = 5 ∧ ∀ x ∈ hashN p k, W32 x
  | 0 => ⟨rfl, by unfold hashN initH W32; simp⟩
  | k + 1 => by
    have ih := hash_ok p k
    refine ⟨?_, w32_zip _ _⟩
    show (List.zipWith ad (hashN p k) (steps (sched _ 80) (hashN p k) 80)).length = 5
    rw [List.length_zipWith, ih.1, steps_len ih.1]; rfl
def outB (h : List Int) (i : Nat) : Int := h.getD (i / 4) 0 / 2 ^ (24 - 8 * (i % 4)) % 256
/-- the digest -/
def shaL (bs : List Int) : List Int := (List.range 20).map (outB (hashN (padL bs) ((padL bs).length / 64)))
/-- the first i bytes of a digest, the others 0 -/
def outL (d : List Int) (i : Nat) : List Int := (List.range i).map (outB d) ++ List.replicate (20 - i) 0
theorem out_set (d : List Int) (i : Nat) (hi : i < 20) : (outL d i).set i (outB d i) = outL d (i + 1) := by
  have e : 20 - i = (20 - (i + 1)) + 1 := by omega
  unfold outL
  rw [List.set_append_right _ _ (by simp), List.length_map, List.length_range, Nat.sub_self, e, List.replicate_succ, List.range_succ, List.map_append]
  simp
theorem out_len (d : List Int) (i : Nat) (hi : i ≤ 20) : (outL d i).length = 20 := by unfold outL; simp; omega
theorem digest_info : (Try.prog.info? 54).map (·.size) = some 20 := by kernel_rfl
theorem nums_one (d : List Int) : ((d.map (Value.int .u8)).toArray).all (·.oneCell') = true := by
  rw [Array.all_eq_true_iff_forall_mem]
  intro v hv
  simp at hv
  obtain ⟨z, _, rfl⟩ := hv
  rfl
def ShaRet (w : World) (bs : List Int) (e : Ending) (w' : World) : Prop := e = .returned (.agg ((shaL bs).map (Value.int .u8)).toArray) ∧ Below w.heap.size w w'
/-- b[p:p+64] -/
theorem cut64 (g L c p : Nat) (h1 : p + 64 ≤ L) (h2 : L ≤ c) (h3 : c ≤ 9223372036854775807) (w : World) :
    (Instr.slice 22 (.slice (some ⟨g, 0, none⟩) L c) (some (.int .i64 (p : Int))) (some (.int .i64 ((p : Int) + 64))) none).run Try.prog w = .ok (.slice (some ⟨g, p, none⟩) 64 (c - p)) w := by
  have k1 : (p : Int) + 64 = ((p + 64 : Nat) : Int) := by omega
  rw [k1]
  obtain ⟨q, hq⟩ : ∃ q, q = p + 64 := ⟨_, rfl⟩
  rw [← hq]
  have k2 : (p : Int) ≤ (q : Int) := by omega
  have k3 : (q : Int) ≤ (c : Int) := by omega
  have k4 : q - p = 64 := by omega
  have k5 : ¬ c = p := by omega
  have k6 : p ≤ q := by omega
  have k7 : q ≤ c := by omega
  have k8 : (0 : Int) ≤ (q : Int) := by omega
  clear hq h1 k1
  go_simp
/-- the bytes so far: the call's own -/
def PadR (w W : World) (T : List Int) (v : Value) (wr : World) : Prop := ∃ A c L, v = .slice A L c ∧ T.length = L ∧ L ≤ c ∧ c ≤ maxLen ∧ Own .u8 5 wr (w.heap.size + 1) (.slice A L c) T ∧ Below (w.heap.size + 1) W wr
theorem pad_snoc (bs : List Int) (j : Nat) : (bs ++ 128 :: List.replicate j 0) ++ [0] = bs ++ 128 :: List.replicate (j + 1) 0 := by
  rw [List.append_assoc, List.cons_append, ← List.replicate_succ']
theorem pad_next {w : World} {b : Nat} {v : Value} {pd xs ys : List Int} {y : Int} (h : Own .u8 5 w b v (pd ++ xs ++ [y])) (e : xs ++ [y] = ys) : Own .u8 5 w b v (pd ++ ys) := by
  rw [List.append_assoc, e] at h; exact h
def lenOf : Value → Nat
  | .slice _ l _ => l
  | _ => 0
set_option maxRecDepth 100000 in
set_option maxHeartbeats 1000000 in
theorem of_any (A : Option Addr) (n c : Nat) (bs : List Int) (w : World) (hb : Nums .u8 w w.heap.size A n bs) (hy : ∀ x ∈ bs, Byte x) (hn : n ≤ 20000) :
    Calls Try.prog 44 #[.slice A n c] w (ShaRet w bs) := by
  obtain ⟨i0, hi0, hz0, hz1, hz2⟩ := info_parts byte_info
  have T1 := Lib.hid hi0; have T2 := Lib.hid hz0; have T3 := Lib.hid hz1; have T4 := Lib.hid hz2
  have HBn := Lib.hid hb
  have HL := Lib.hid hb.len
  clear hi0 hz0 hz1 hz2 hb
  go_enter Try.func44, Try.ntmps44
  go_upto_region 1 with fail
  have R0 := Arr.new w .u8 54 (List.replicate 20 0)
  have BW : Below w.heap.size w (w.alloc (.cells ((List.replicate 20 (0 : Int)).map (Value.int .u8)).toArray 54)) := alloc_below _ _
  have SW := alloc_size w (.cells ((List.replicate 20 (0 : Int)).map (Value.int .u8)).toArray 54)
  change Code.wp _ _ _ _ (w.alloc (.cells ((List.replicate 20 (0 : Int)).map (Value.int .u8)).toArray 54))
  generalize w.alloc (.cells ((List.replicate 20 (0 : Int)).map (Value.int .u8)).toArray 54) = W at *
  have NW := HBn.out.below BW
  have SH := Lib.hid SW
  clear SW
  go_upto_region 2 with (first
    | (at_builtin; (refine wpList_appT _ rfl (.const (.slice none 0 0)) (.tmp 10) _ rfl 5 i0 _ 1 Try.underlying22 T1.out T2.out T3.out T4.out rfl (w.heap.size + 1) _ [] rfl (Own.nil _ _) w.heap.size A n c bs rfl NW (by simp only [maxLen, List.length_nil]; omega) (by simp only [List.length_nil]; omega) (Nat.le_of_eq SH.out.symm) n (by simp) ?_)
       intro A2 c2 w2 g2 g2' O2 B2
       have O2 : Own .u8 5 w2 (w.heap.size + 1) (.slice A2 n c2) bs := O2
       have S2 : w.heap.size + 1 ≤ w2.heap.size := by rw [← SH.out]; exact Below.size B2)
    | (at_builtin; (refine wpList_app1T _ rfl (.tmp 11) (.tmp 12) _ rfl 5 i0 _ 1 Try.underlying22 T1.out T2.out T3.out T4.out rfl (w.heap.size + 1) _ bs rfl O2 128 rfl (by rw [HL.out]; simp only [maxLen]; omega) (by rw [HL.out]; omega) S2 (n + 1) (by rw [HL.out]) ?_)
       intro A3 c3 w3 g3 g3' O3 B3
       have P3 : PadR w W (bs ++ 128 :: List.replicate 0 0) (.slice A3 (n + 1) c3) w3 := ⟨A3, c3, n + 1, rfl, by simp [HL.out], g3, g3', O3, B2.trans B3⟩))
  clear O2 B2 O3 B3 S2 g2 g2' g3 g3'
  go_wp2_with fail
  go_loopw [3] (fun v wr => ∃ j : Nat, j ≤ zerosN n ∧ PadR w W (bs ++ 128 :: List.replicate j 0) v wr) (fun v _ => zerosN n + n + 1 - lenOf v)
  case atStart => exact ⟨0, Nat.zero_le _, P3⟩
  case round =>
    obtain ⟨j, hj, A4, c4, L, rfl, hl, g4, g4', O4, B4⟩ := hrel
    have hL : L = n + 1 + j := by rw [← hl]; simp [HL.out]; omega
    have HLj := Lib.hid hL
    have hz64 := (zeros_spec n).2
    have hL2 : L ≤ 20100 := by omega
    have HTl := Lib.hid hl
    have S4 : w.heap.size + 1 ≤ wr.heap.size := by rw [← SH.out]; exact Below.size B4
    clear hl hL
    by_cases hlt : j < zerosN n
    · have hne := zeros_less hlt
      rw [← HLj.out] at hne
      have e1 : ((L : Int) % 64 == 56) = false := by simp; omega
      have e2 : ((L : Int) % 64 != 56) = true := by simp; omega
      have e3 : ¬ ((L : Int) % 64 = 56) := by omega
      clear hne
      go_wp2_with (first
        | (at_builtin; (refine wpList_app1T _ rfl (.tmp 18) (.tmp 19) _ rfl 5 i0 _ 1 Try.underlying22 T1.out T2.out T3.out T4.out rfl (w.heap.size + 1) _ _ rfl O4 0 rfl (by rw [HTl.out]; simp only [maxLen]; omega) (by rw [HTl.out]; omega) S4 (L + 1) (by rw [HTl.out]) ?_)
           intro A5 c5 w5 g5 g5' O5 B5
           have P5 : PadR w W (bs ++ 128 :: List.replicate (j + 1) 0) (.slice A5 (L + 1) c5) w5 := by
             rw [pad_snoc] at O5
             exact ⟨A5, c5, L + 1, rfl, by rw [← pad_snoc, List.length_append, HTl.out]; rfl, g5, g5', O5, B4.trans B5⟩))
      clear e1 e2 e3
      go_roundw
      case rel => exact ⟨j + 1, by omega, P5⟩
      case measure => simp [lenOf]; have := HLj.out; omega
    · have e : j = zerosN n := by omega
      have h56 := (zeros_spec n).1
      rw [← e, ← HLj.out] at h56
      have e1 : (L : Int) % 64 = 56 := by omega
      have P4 : PadR w W (bs ++ 128 :: List.replicate (zerosN n) 0) (.slice A4 L c4) wr := ⟨A4, c4, L, rfl, by rw [← e]; exact HTl.out, g4, g4', by rw [← e]; exact O4, B4⟩
      have H56 := Lib.hid h56
      clear O4 B4 S4 h56 hlt
      go_upto_region 5 with fail
      clear e1
      obtain ⟨x, hx⟩ : ∃ x, x = (n : Int) * 8 := ⟨_, rfl⟩
      rw [← hx]
      have x0 : 0 ≤ x := by omega
      have x1 : x ≤ 160000 := by omega
      have HX := Lib.hid hx
      obtain ⟨pd, hpd⟩ : ∃ pd, pd = bs ++ 128 :: List.replicate (zerosN n) 0 := ⟨_, rfl⟩
      rw [← hpd] at P4
      have HPD := Lib.hid hpd
      have hpl : pd.length = L := by rw [hpd, ← e]; exact HTl.out
      have HPL := Lib.hid hpl
      clear hx hpd hpl HTl e
      go_wp2_with fail
      go_loopw [3, 5] (fun v i wr => ∃ (m : Nat) (z : Int), m ≤ 8 ∧ z + m = 7 ∧ i = .int .i64 z ∧ PadR w W (pd ++ (lenB x).take m) v wr) (fun _ i _ => (intOf i + 1).toNat)
      case atStart => exact ⟨0, 7, by omega, by omega, rfl, by simpa using P4⟩
      case round =>
        obtain ⟨m, z, hm, hzm, rfl, A6, c6, L6, rfl, hl6, g6, g6', O6, B6⟩ := hrel
        have S6 : w.heap.size + 1 ≤ wr.heap.size := by rw [← SH.out]; exact Below.size B6
        have hL6 : L6 ≤ 20200 := by rw [← hl6, List.length_append, HPL.out]; have : ((lenB x).take m).length ≤ 8 := by rw [List.length_take]; simp [lenB]; omega
                                    omega
        have HL6 := Lib.hid hl6
        clear hl6
        by_cases hlt : m < 8
        · rcases (show (m = 0 ∧ z = 7) ∨ (m = 1 ∧ z = 6) ∨ (m = 2 ∧ z = 5) ∨ (m = 3 ∧ z = 4) ∨ (m = 4 ∧ z = 3) ∨ (m = 5 ∧ z = 2) ∨ (m = 6 ∧ z = 1) ∨ (m = 7 ∧ z = 0) by omega) with ⟨rfl, rfl⟩ | ⟨rfl, rfl⟩ | ⟨rfl, rfl⟩ | ⟨rfl, rfl⟩ | ⟨rfl, rfl⟩ | ⟨rfl, rfl⟩ | ⟨rfl, rfl⟩ | ⟨rfl, rfl⟩
          · clear hzm
            go_wp2_with (first
              | (at_builtin; (refine wpList_app1T _ rfl (.tmp 29) (.tmp 35) _ rfl 5 i0 _ 1 Try.underlying22 T1.out T2.out T3.out T4.out rfl (w.heap.size + 1) _ _ rfl O6 _ rfl (by rw [HL6.out]; simp only [maxLen]; omega) (by rw [HL6.out]; omega) S6 (L6 + 1) (by rw [HL6.out]) ?_)
                 intro A7 c7 w7 g7 g7' O7 B7))
            go_roundw
            case rel =>
              refine ⟨0 + 1, 6, by omega, by omega, rfl, A7, c7, L6 + 1, rfl, ?_, g7, g7', pad_next O7 ?_, B6.trans B7⟩
              · rw [← HL6.out]; simp [lenB]
              · first | (simp [lenB]; done) | (simp [lenB]; omega)
            case measure => simp [intOf]
          · clear hzm
            go_wp2_with (first
              | (at_builtin; (refine wpList_app1T _ rfl (.tmp 29) (.tmp 35) _ rfl 5 i0 _ 1 Try.underlying22 T1.out T2.out T3.out T4.out rfl (w.heap.size + 1) _ _ rfl O6 _ rfl (by rw [HL6.out]; simp only [maxLen]; omega) (by rw [HL6.out]; omega) S6 (L6 + 1) (by rw [HL6.out]) ?_)
                 intro A7 c7 w7 g7 g7' O7 B7))
            go_roundw
            case rel =>
              refine ⟨1 + 1, 5, by omega, by omega, rfl, A7, c7, L6 + 1, rfl, ?_, g7, g7', pad_next O7 ?_, B6.trans B7⟩
              · rw [← HL6.out]; simp [lenB]
              · first | (simp [lenB]; done) | (simp [lenB]; omega)
            case measure => simp [intOf]
          · clear hzm
            go_wp2_with (first
              | (at_builtin; (refine wpList_app1T _ rfl (.tmp 29) (.tmp 35) _ rfl 5 i0 _ 1 Try.underlying22 T1.out T2.out T3.out T4.out rfl (w.heap.size + 1) _ _ rfl O6 _ rfl (by rw [HL6.out]; simp only [maxLen]; omega) (by rw [HL6.out]; omega) S6 (L6 + 1) (by rw [HL6.out]) ?_)
                 intro A7 c7 w7 g7 g7' O7 B7))
            go_roundw
            case rel =>
              refine ⟨2 + 1, 4, by omega, by omega, rfl, A7, c7, L6 + 1, rfl, ?_, g7, g7', pad_next O7 ?_, B6.trans B7⟩
              · rw [← HL6.out]; simp [lenB]
              · first | (simp [lenB]; done) | (simp [lenB]; omega)
            case measure => simp [intOf]
          · clear hzm
            go_wp2_with (first
              | (at_builtin; (refine wpList_app1T _ rfl (.tmp 29) (.tmp 35) _ rfl 5 i0 _ 1 Try.underlying22 T1.out T2.out T3.out T4.out rfl (w.heap.size + 1) _ _ rfl O6 _ rfl (by rw [HL6.out]; simp only [maxLen]; omega) (by rw [HL6.out]; omega) S6 (L6 + 1) (by rw [HL6.out]) ?_)
                 intro A7 c7 w7 g7 g7' O7 B7))
            go_roundw
            case rel =>
              refine ⟨3 + 1, 3, by omega, by omega, rfl, A7, c7, L6 + 1, rfl, ?_, g7, g7', pad_next O7 ?_, B6.trans B7⟩
              · rw [← HL6.out]; simp [lenB]
              · first | (simp [lenB]; done) | (simp [lenB]; omega)
            case measure => simp [intOf]
          · clear hzm
            go_wp2_with (first
              | (at_builtin; (refine wpList_app1T _ rfl (.tmp 29) (.tmp 35) _ rfl 5 i0 _ 1 Try.underlying22 T1.out T2.out T3.out T4.out rfl (w.heap.size + 1) _ _ rfl O6 _ rfl (by rw [HL6.out]; simp only [maxLen]; omega) (by rw [HL6.out]; omega) S6 (L6 + 1) (by rw [HL6.out]) ?_)
                 intro A7 c7 w7 g7 g7' O7 B7))
            go_roundw
            case rel =>
              refine ⟨4 + 1, 2, by omega, by omega, rfl, A7, c7, L6 + 1, rfl, ?_, g7, g7', pad_next O7 ?_, B6.trans B7⟩
              · rw [← HL6.out]; simp [lenB]
              · first | (simp [lenB]; done) | (simp [lenB]; omega)
            case measure => simp [intOf]
          · clear hzm
            go_wp2_with (first
              | (at_builtin; (refine wpList_app1T _ rfl (.tmp 29) (.tmp 35) _ rfl 5 i0 _ 1 Try.underlying22 T1.out T2.out T3.out T4.out rfl (w.heap.size + 1) _ _ rfl O6 _ rfl (by rw [HL6.out]; simp only [maxLen]; omega) (by rw [HL6.out]; omega) S6 (L6 + 1) (by rw [HL6.out]) ?_)
                 intro A7 c7 w7 g7 g7' O7 B7))
            go_roundw
            case rel =>
              refine ⟨5 + 1, 1, by omega, by omega, rfl, A7, c7, L6 + 1, rfl, ?_, g7, g7', pad_next O7 ?_, B6.trans B7⟩
              · rw [← HL6.out]; simp [lenB]
              · first | (simp [lenB]; done) | (simp [lenB]; omega)
            case measure => simp [intOf]
          · clear hzm
            go_wp2_with (first
              | (at_builtin; (refine wpList_app1T _ rfl (.tmp 29) (.tmp 35) _ rfl 5 i0 _ 1 Try.underlying22 T1.out T2.out T3.out T4.out rfl (w.heap.size + 1) _ _ rfl O6 _ rfl (by rw [HL6.out]; simp only [maxLen]; omega) (by rw [HL6.out]; omega) S6 (L6 + 1) (by rw [HL6.out]) ?_)
                 intro A7 c7 w7 g7 g7' O7 B7))
            go_roundw
            case rel =>
              refine ⟨6 + 1, 0, by omega, by omega, rfl, A7, c7, L6 + 1, rfl, ?_, g7, g7', pad_next O7 ?_, B6.trans B7⟩
              · rw [← HL6.out]; simp [lenB]
              · first | (simp [lenB]; done) | (simp [lenB]; omega)
            case measure => simp [intOf]
          · clear hzm
            go_wp2_with (first
              | (at_builtin; (refine wpList_app1T _ rfl (.tmp 29) (.tmp 35) _ rfl 5 i0 _ 1 Try.underlying22 T1.out T2.out T3.out T4.out rfl (w.heap.size + 1) _ _ rfl O6 _ rfl (by rw [HL6.out]; simp only [maxLen]; omega) (by rw [HL6.out]; omega) S6 (L6 + 1) (by rw [HL6.out]) ?_)
                 intro A7 c7 w7 g7 g7' O7 B7))
            go_roundw
            case rel =>
              refine ⟨7 + 1, -1, by omega, by omega, rfl, A7, c7, L6 + 1, rfl, ?_, g7, g7', pad_next O7 ?_, B6.trans B7⟩
              · rw [← HL6.out]; simp [lenB]
              · first | (simp [lenB]; done) | (simp [lenB]; omega)
            case measure => simp [intOf]
        · have e8 : m = 8 := by omega
          subst e8
          obtain rfl : z = -1 := by omega
          have hP : pd ++ (lenB x).take 8 = padL bs := by rw [padL, HL.out, ← HPD.out, HX.out]; rfl
          rw [hP] at O6
          have HLP := Lib.hid (show (padL bs).length = L6 by rw [← hP]; exact HL6.out)
          have h64 : L6 % 64 = 0 := by
            have h1 := HL6.out
            rw [List.length_append, HPL.out] at h1
            have h2 : ((lenB x).take 8).length = 8 := rfl
            have := H56.out
            omega
          have hpos : 0 < L6 := by
            have h1 := HL6.out
            rw [List.length_append] at h1
            have h2 : ((lenB x).take 8).length = 8 := rfl
            omega
          have H64 := Lib.hid h64
          obtain ⟨gb, rfl, hgb0, hgb1, _, _⟩ := O6.row hpos
          have NB := O6.nums
          have RW := R0.below B6 (Nat.lt_succ_self _)
          have BEL : Below w.heap.size w wr := BW.trans (B6.mono (Nat.le_succ _))
          have yP := pad_byte hy
          clear h64 hP HL6 hzm hlt B6 O6 P4
          go_upto_region 10 with fail
          have AH := Arr.new wr .u32 71 initH
          have R8 := RW.alloc (.cells (initH.map (Value.int .u32)).toArray 71)
          have N8 := NB.below (alloc_below wr (.cells (initH.map (Value.int .u32)).toArray 71))
          have B8 := BEL.alloc BEL.size (.cells (initH.map (Value.int .u32)).toArray 71)
          have z8 := alloc_size wr (.cells (initH.map (Value.int .u32)).toArray 71)
          have ltR : w.heap.size < wr.heap.size := RW.lt
          change Code.wp _ _ _ _ (wr.alloc (.cells (initH.map (Value.int .u32)).toArray 71))
          generalize wr.alloc (.cells (initH.map (Value.int .u32)).toArray 71) = w8 at *
          generalize wr.heap.size = Hb at *
          have Z8 := Lib.hid z8
          have NH := Lib.hid N8
          have YP := Lib.hid yP
          clear z8 RW NB BEL S6 N8 yP
          go_wp2_with fail
          go_loopw [7] (fun i wx => ∃ k : Nat, 64 * k ≤ L6 ∧ i = .int .i64 (64 * k : Nat) ∧ Arr .u32 71 wx Hb (hashN (padL bs) k) ∧ Below Hb w8 wx) (fun i _ => L6 - (intOf i).toNat)
          case atStart => exact ⟨0, by omega, rfl, AH, Below.refl _ _⟩
          case round =>
            obtain ⟨k, hk, rfl, AK, BK⟩ := hrel
            obtain ⟨p, hp⟩ : ∃ p, p = 64 * k := ⟨_, rfl⟩
            rw [← hp] at hk ⊢
            have HP := Lib.hid hp
            have HA := Lib.hid AK
            clear hp
            by_cases hlt : p + 64 ≤ L6
            · obtain ⟨a0, a1, a2, a3, a4, ha⟩ := list5 (hash_ok (padL bs) k).1
              have hw := (hash_ok (padL bs) k).2
              rw [ha] at AK hw
              have q0 : wr.cell? ⟨Hb, 0, none⟩ = some (.int .u32 a0) := AK.cell (j := 0) (by simp)
              have q1 : wr.cell? ⟨Hb, 1, none⟩ = some (.int .u32 a1) := AK.cell (j := 1) (by simp)
              have q2 : wr.cell? ⟨Hb, 2, none⟩ = some (.int .u32 a2) := AK.cell (j := 2) (by simp)
              have q3 : wr.cell? ⟨Hb, 3, none⟩ = some (.int .u32 a3) := AK.cell (j := 3) (by simp)
              have q4 : wr.cell? ⟨Hb, 4, none⟩ = some (.int .u32 a4) := AK.cell (j := 4) (by simp)
              have l1 : (p : Int) + 64 ≤ (L6 : Int) := by omega
              have pc : ¬ c6 = p := by omega
              have g6m : c6 ≤ 9223372036854775807 := g6'
              have sl := cut64 gb L6 c6 p hlt g6 g6m
              have NP : Nums .u8 wr Hb (some ⟨gb, p, none⟩) 64 (((padL bs).drop p).take 64) := by
                have h1 := (((NH.out.below BK).cut (j := p) (by omega) g6).upto (j := 64) (by omega))
                rw [if_neg pc] at h1
                simpa [memC.add_plain] using h1
              obtain ⟨d0, d1, d2, d3, d4, hd⟩ := list5 (hash_ok (padL bs) (k + 1)).1
              have hd2 : blk [a0, a1, a2, a3, a4] (((padL bs).drop p).take 64) = [d0, d1, d2, d3, d4] := by rw [← hd, ← ha, HP.out]; rfl
              have HD := Lib.hid hd
              clear hd ha
              go_upto_region 13 with fail
              have i1 : IntKind.i64.wrap ((p : Int) + 64) = (p : Int) + 64 := IntWalk.i64_in _ (by omega)
              go_still_tail 6, (by kernel_rfl)
              change wpList _ _ _ _ _ wr.drew
              clear i1 sl
              have BL := Lib.hid ((block_any a0 a1 a2 a3 a4 (some ⟨gb, p, none⟩) (c6 - p) (((padL bs).drop p).take 64) wr.drew ((NP.more (Nat.le_of_lt AK.lt)).heap rfl) (fun y h => YP.out y (List.mem_of_mem_drop (List.mem_of_mem_take h))) (hw a0 (by simp)) (hw a1 (by simp)) (hw a2 (by simp)) (hw a3 (by simp)) (hw a4 (by simp))).mono
                fun e w' h => (show e = .returned (.agg #[.int .u32 d0, .int .u32 d1, .int .u32 d2, .int .u32 d3, .int .u32 d4]) ∧ Below wr.heap.size wr.drew w' from ⟨by rw [h.1, hd2]; rfl, h.2⟩))
              have AKl := AK.lt
              have AD := AK.heap (w' := wr.drew) rfl
              clear hd2 q0 q1 q2 q3 q4 AK NP hw
              go_wp2_with (first
                | (go_at_call 56; (with_reducible refine BL.out.mono ?_); rintro e w9 ⟨rfl, B9⟩
                   have A9 := AD.below B9 AKl
                   have q0 : w9.cell? ⟨Hb, 0, none⟩ = some (.int .u32 a0) := A9.cell (j := 0) (by simp)
                   have q1 : w9.cell? ⟨Hb, 1, none⟩ = some (.int .u32 a1) := A9.cell (j := 1) (by simp)
                   have q2 : w9.cell? ⟨Hb, 2, none⟩ = some (.int .u32 a2) := A9.cell (j := 2) (by simp)
                   have q3 : w9.cell? ⟨Hb, 3, none⟩ = some (.int .u32 a3) := A9.cell (j := 3) (by simp)
                   have q4 : w9.cell? ⟨Hb, 4, none⟩ = some (.int .u32 a4) := A9.cell (j := 4) (by simp)
                   have f0 := A9.frozen 0
                   have f1 := A9.frozen 1
                   have f2 := A9.frozen 2
                   have f3 := A9.frozen 3
                   have f4 := A9.frozen 4))
              go_roundw
              case rel =>
                refine ⟨k + 1, by have := HP.out; omega, by have := HP.out; go_num, ?_, ?_⟩
                · rw [HD.out]
                  exact ((((A9.stored 0 d0).stored 1 d1).stored 2 d2).stored 3 d3).stored 4 d4
                · have bb : Below Hb w8 w9 := (BK.drew).trans (B9.mono (Nat.le_of_lt AKl))
                  exact ((((bb.setCell (p := ⟨Hb, 0, none⟩) (Nat.le_refl _) _).setCell (p := ⟨Hb, 1, none⟩) (Nat.le_refl _) _).setCell (p := ⟨Hb, 2, none⟩) (Nat.le_refl _) _).setCell (p := ⟨Hb, 3, none⟩) (Nat.le_refl _) _).setCell (p := ⟨Hb, 4, none⟩) (Nat.le_refl _) _
              case measure => simp [intOf]; omega
            · have e : k = L6 / 64 := by have := HP.out; have := H64.out; omega
              have hD : hashN (padL bs) k = hashN (padL bs) ((padL bs).length / 64) := by rw [HLP.out, e]
              have AF := HA.out
              rw [hD] at AF
              obtain ⟨D, eD⟩ : ∃ D, D = hashN (padL bs) ((padL bs).length / 64) := ⟨_, rfl⟩
              have hDl : D.length = 5 := by rw [eD]; exact (hash_ok _ _).1
              have hDw : ∀ x ∈ D, W32 x := by rw [eD]; exact (hash_ok _ _).2
              rw [← eD] at AF
              have ED := Lib.hid eD
              have HDL := Lib.hid hDl
              have RF := R8.below BK ltR
              have BF : Below w.heap.size w wr := B8.trans (BK.mono (Nat.le_of_lt ltR))
              have lr : Hb < wr.heap.size := AF.lt
              have hneg : ¬ ((p : Int) + 64 ≤ (L6 : Int)) := by omega
              clear hD eD AK hlt e hDl
              go_upto_region 15 with fail
              have AO := Arr.new wr .u8 54 (List.replicate 20 0)
              have A2' := AF.alloc (.cells ((List.replicate 20 (0 : Int)).map (Value.int .u8)).toArray 54)
              have R2' := RF.alloc (.cells ((List.replicate 20 (0 : Int)).map (Value.int .u8)).toArray 54)
              have B2' := BF.alloc BF.size (.cells ((List.replicate 20 (0 : Int)).map (Value.int .u8)).toArray 54)
              change Code.wp _ _ _ _ (wr.alloc (.cells ((List.replicate 20 (0 : Int)).map (Value.int .u8)).toArray 54))
              generalize wr.alloc (.cells ((List.replicate 20 (0 : Int)).map (Value.int .u8)).toArray 54) = w11 at *
              generalize wr.heap.size = Ob at *
              clear AF RF BF HA BK
              go_wp2_with fail
              go_loopw [9] (fun i wx => ∃ q : Nat, q ≤ 20 ∧ i = .int .i64 q ∧ Arr .u8 54 wx Ob (outL D q) ∧ Arr .u32 71 wx Hb D ∧ Arr .u8 54 wx w.heap.size (List.replicate 20 0) ∧ Below w.heap.size w wx) (fun i _ => 20 - (intOf i).toNat)
              case atStart => exact ⟨0, by omega, rfl, AO, A2', R2', B2'⟩
              case round =>
                obtain ⟨q, hq, rfl, AQ, HQ, RQ, BQ⟩ := hrel
                by_cases hlt : q < 20
                · obtain ⟨u, hu⟩ : ∃ u, u = q / 4 := ⟨_, rfl⟩
                  obtain ⟨v, hv⟩ : ∃ v, v = q % 4 := ⟨_, rfl⟩
                  obtain ⟨s, hs⟩ : ∃ s, s = 24 - 8 * v := ⟨_, rfl⟩
                  have hv4 : v < 4 := by omega
                  have huz : (q : Int) / 4 = (u : Int) := by omega
                  have hvz : (q : Int) % 4 = (v : Int) := by omega
                  have hsz : (24 : Int) - 8 * (v : Int) = (s : Int) := by omega
                  have hu5 : u < 5 := by omega
                  have hu5z : (u : Int) < 5 := by omega
                  have HYv : outB D q = D.getD u 0 / 2 ^ s % 256 := by unfold outB; rw [← hu, ← hv, ← hs]
                  have HO := Lib.hid HYv
                  have cd : wr.cell? ⟨Hb, u, none⟩ = some (.int .u32 (D.getD u 0)) := HQ.cell (by rw [HDL.out]; exact hu5)
                  have yw : W32 (D.getD u 0) := by
                    rw [List.getD_eq_getElem?_getD, List.getElem?_eq_getElem (by rw [HDL.out]; exact hu5)]
                    exact hDw _ (List.getElem_mem _)
                  have co := AQ.cell (j := q) (by rw [out_len D q hq]; exact hlt)
                  have fo := AQ.frozen q
                  generalize D.getD u 0 = y at *
                  obtain ⟨yw0, yw1⟩ := yw
                  have hlz : (q : Int) < 20 := by omega
                  clear hu hv hs HYv
                  go_wp2_with fail
                  go_roundw
                  case rel =>
                    refine ⟨q + 1, by omega, by go_num, ?_, HQ.other (by show Ob ≠ Hb; omega) _, RQ.other (by show Ob ≠ w.heap.size; omega) _, BQ.setCell (p := ⟨Ob, q, none⟩) (by show w.heap.size ≤ Ob; omega) _⟩
                    rw [← out_set D q hlt, HO.out]
                    exact AQ.stored q _
                  case measure => simp [intOf]; omega
                · have e : q = 20 := by omega
                  subst e
                  have hF : outL D 20 = shaL bs := by unfold outL shaL; rw [ED.out]; simp
                  rw [hF] at AQ
                  have hlS : (shaL bs).length = 20 := by unfold shaL; simp
                  have G1 := Lib.hid AQ.row
                  have G2 := Lib.hid RQ.row
                  have HF := Lib.hid hlS
                  have U1 := Lib.hid (show (Try.prog.info? 54).map (·.size) = some (((shaL bs).map (Value.int .u8)).toArray).size by rw [digest_info]; simp [hlS])
                  clear hF hlt hlS AQ RQ HQ
                  go_wp2_with (first
                    | (refine wpList_load_row rfl 54 (.tmp 8) rfl Ob rfl _ _ _ _ G1.out Try.underlying54 rfl U1.out ?_)
                    | (refine wpList_store_row rfl 54 (.tmp 2) (.tmp 68) rfl w.heap.size _ rfl rfl _ _ G2.out U1.out (by simp [HF.out]) (nums_one _) ?_))
                  refine bodyPost_ret (v := .agg ((shaL bs).map (Value.int .u8)).toArray) (results_cell_row Try.results44 _ _ w.heap.size _ _ _ _ (by rfl) (setRow_heap _ _ _ _ _ _ G2.out) Try.underlying54 rfl U1.out) rfl ⟨rfl, ?_⟩
                  exact BQ.trans ⟨rfl, rfl, rfl, by simp, fun z hz => setRow_other _ _ _ _ (by omega)⟩
end Go.Proofs.Ythbgjjfhgbkbdaa.shaC

/-
  A call that turns one block that was there, and no other.
-/
namespace Go.Proofs.Ythbgjjfhgbkbdaa.butC
open Go.ChangeShapes Go.WideShapes Go.ChangeAt Go.RowKit
open Go.Proofs.Ythbgjjfhgbkbdaa.memC Go.Proofs.Ythbgjjfhgbkbdaa.genC
set_option linter.unusedVariables false
/-- of the blocks that were there, block k alone may have turned -/
structure But (k : Nat) (w w' : World) : Prop where
  os : w'.os = w.os
  tape : w'.tape = w.tape
  output : w'.output = w.output
  size : w.heap.size ≤ w'.heap.size
  block : ∀ g, g < w.heap.size → g ≠ k → w'.heap[g]? = w.heap[g]?
section
variable {k B : Nat} {w w1 w2 : World}
theorem But.below (h : Below w.heap.size w w1) : But k w w1 := ⟨h.os, h.tape, h.output, h.size, fun g hg _ => h.block g hg⟩
theorem But.refl (w : World) : But k w w := But.below (Below.refl _ _)
theorem But.trans (h : But k w w1) (h' : But k w1 w2) : But k w w2 :=
  ⟨h'.os.trans h.os, h'.tape.trans h.tape, h'.output.trans h.output, Nat.le_trans h.size h'.size, fun g hg hn => (h'.block g (Nat.lt_of_lt_of_le hg h.size) hn).trans (h.block g hg hn)⟩
/-- a block that a later world alone has may turn -/
theorem But.under {k2 : Nat} (h : But k w w1) (h' : But k2 w1 w2) (hk : w.heap.size ≤ k2) : But k w w2 :=
  ⟨h'.os.trans h.os, h'.tape.trans h.tape, h'.output.trans h.output, Nat.le_trans h.size h'.size, fun g hg hn => (h'.block g (Nat.lt_of_lt_of_le hg h.size) (by omega)).trans (h.block g hg hn)⟩
theorem But.heap (h : But k w w1) (e : w2.heap = w1.heap) (e1 : w2.os = w1.os) (e2 : w2.tape = w1.tape) (e3 : w2.output = w1.output) : But k w w2 :=
  ⟨e1.trans h.os, e2.trans h.tape, e3.trans h.output, by rw [e]; exact h.size, fun g hg hn => by rw [e]; exact h.block g hg hn⟩
theorem But.alloc (h : But k w w1) (o : Obj) : But k w (w1.alloc o) := h.trans (But.below (alloc_below _ _))
theorem But.setCell (h : But k w w1) (j : Nat) (v : Value) : But k w (w1.setCell ⟨k, j, none⟩ v) :=
  ⟨h.os, h.tape, h.output, by simpa [World.setCell] using h.size, fun g hg hn => by rw [Below.heap_setCell _ _ _ _ hn]; exact h.block g hg hn⟩
/-- a store into a block that was not there -/
theorem But.fresh (h : But k w w1) {a : Addr} (ha : w.heap.size ≤ a.block) (v : Value) : But k w (w1.setCell a v) :=
  ⟨h.os, h.tape, h.output, by simpa [World.setCell] using h.size, fun g hg hn => by rw [Below.heap_setCell _ _ _ _ (by omega)]; exact h.block g hg hn⟩
theorem But.setRow (h : But k w w1) (cs : Array Value) : But k w (w1.setRow k cs) :=
  ⟨h.os, h.tape, h.output, by simpa [World.setRow] using h.size, fun g hg hn => by rw [setRow_other w1 k g cs hn]; exact h.block g hg hn⟩
theorem But.to_below (h : But k w w1) (hk : B ≤ k) (hw : B ≤ w.heap.size) : Below B w w1 :=
  ⟨h.os, h.tape, h.output, h.size, fun g hg => h.block g (by omega) (by omega)⟩
theorem But.cell (h : But k w w1) {a : Addr} (ha : a.block < w.heap.size) (hn : a.block ≠ k) : w1.cell? a = w.cell? a := World.cell?_of_block (w := w) (h.block _ ha hn)
/-- what lies in another block stands -/
def Off (A : Option Addr) (k : Nat) : Prop := ∀ a, A = some a → a.block ≠ k
theorem But.nums {K : IntKind} {A : Option Addr} {n : Nat} {xs : List Int} (h : But k w w1) (hx : Nums K w w.heap.size A n xs) (hA : 0 < n → Off A k) : Nums K w1 w1.heap.size A n xs :=
  ⟨hx.len, fun hn => by
    obtain ⟨b, o, e, hb, hc⟩ := hx.at_ hn
    exact ⟨b, o, e, Nat.lt_of_lt_of_le hb h.size, fun i hi => (h.cell (a := ⟨b, o + i, none⟩) hb (fun e2 => hA hn _ e e2)).trans (hc i hi)⟩⟩
theorem off_below {K : IntKind} {A : Option Addr} {n : Nat} {xs : List Int} (h : Nums K w B A n xs) (hk : B ≤ k) : 0 < n → Off A k := fun hn a ha => by
  obtain ⟨b, o, e, hb, _⟩ := h.at_ hn
  rw [e] at ha
  obtain rfl := Option.some.inj ha
  show b ≠ k
  omega
theorem But.arr {K : IntKind} {T : TypeId} {g : Nat} {xs : List Int} (h : But k w w1) (hx : Arr K T w g xs) (hg : g ≠ k) : Arr K T w1 g xs := ⟨by rw [h.block g hx.lt hg]; exact hx.row⟩
end
end Go.Proofs.Ythbgjjfhgbkbdaa.butC

/-
  HMAC over numbers.
-/
namespace Go.Proofs.Ythbgjjfhgbkbdaa.hmM
open Go.ChangeShapes Go.WideShapes Go.ChangeAt Go.RowKit
open Go.Proofs.Ythbgjjfhgbkbdaa.memC Go.Proofs.Ythbgjjfhgbkbdaa.genC Go.Proofs.Ythbgjjfhgbkbdaa.shaM Go.Proofs.Ythbgjjfhgbkbdaa.shaC
set_option linter.unusedVariables false
def nz (n : Nat) : List Int := List.replicate n 0
theorem nz_byte (n : Nat) : ∀ x ∈ nz n, Byte x := fun x hx => by rw [List.eq_of_mem_replicate hx]; unfold Byte; omega
theorem sha_len (bs : List Int) : (shaL bs).length = 20 := by unfold shaL; simp
theorem sha_byte (bs : List Int) : ∀ x ∈ shaL bs, Byte x := by
  intro x hx
  unfold shaL outB at hx
  obtain ⟨i, _, rfl⟩ := List.mem_map.1 hx
  unfold Byte
  generalize List.getD _ _ _ / 2 ^ _ = y
  omega
/-- the key, or its digest -/
def keyL (k : List Int) : List Int := if 64 < k.length then shaL k else k
theorem key_len (k : List Int) : (keyL k).length ≤ 64 := by unfold keyL; split <;> first | (rw [sha_len]; decide) | omega
theorem key_byte {k : List Int} (h : ∀ x ∈ k, Byte x) : ∀ x ∈ keyL k, Byte x := by unfold keyL; split <;> first | exact sha_byte k | exact h
/-- a key's block -/
def blkL (k : List Int) : List Int := keyL k ++ nz (64 - (keyL k).length)
theorem blk_len (k : List Int) : (blkL k).length = 64 := by have := key_len k; unfold blkL nz; rw [List.length_append, List.length_replicate]; omega
theorem blk_byte {k : List Int} (h : ∀ x ∈ k, Byte x) : ∀ x ∈ blkL k, Byte x := fun x hx => (List.mem_append.1 hx).elim (key_byte h x) (nz_byte _ x)
/-- .. each byte of which is turned -/
def turnL (k : List Int) (y : Int) : List Int := (blkL k).map fun x => bits .xor .u8 x y
theorem turn_len (k : List Int) (y : Int) : (turnL k y).length = 64 := by unfold turnL; rw [List.length_map, blk_len]
theorem turn_byte (k : List Int) (y : Int) : ∀ x ∈ turnL k y, Byte x := by
  intro x hx
  obtain ⟨z, _, rfl⟩ := List.mem_map.1 hx
  exact bounds_u8 (wf_bits .xor .u8 z y)
/-- the MAC -/
def inL (k m : List Int) : List Int := shaL (turnL k 54 ++ m)
def macL (k m : List Int) : List Int := shaL (turnL k 92 ++ inL k m)
theorem mac_len (k m : List Int) : (macL k m).length = 20 := sha_len _
def shortL (k m : List Int) : List Int := (macL k m).take 12
/-- the first j numbers, the others 0 -/
def partL (xs : List Int) (n j : Nat) : List Int := xs.take j ++ nz (n - j)
theorem part_len {xs : List Int} {n j : Nat} (h : j ≤ xs.length) (hn : j ≤ n) : (partL xs n j).length = n := by unfold partL nz; rw [List.length_append, List.length_take, List.length_replicate]; omega
theorem part_set {xs : List Int} {n j : Nat} (h : j < xs.length) (hn : j < n) : (partL xs n j).set j (xs.getD j 0) = partL xs n (j + 1) := by
  unfold partL nz
  have e : n - j = (n - (j + 1)) + 1 := by omega
  rw [List.set_append_right _ _ (by rw [List.length_take]; omega), List.length_take, show j - min j xs.length = 0 by omega, e, List.replicate_succ, List.set_cons_zero, List.take_succ_eq_append_getElem h, List.append_assoc,
    List.getD_eq_getElem?_getD, List.getElem?_eq_getElem h]
  rfl
theorem part_zero (xs : List Int) (n : Nat) : partL xs n 0 = nz n := by unfold partL; simp
theorem part_all {xs : List Int} {n : Nat} : partL xs n xs.length = xs ++ nz (n - xs.length) := by unfold partL; rw [List.take_of_length_le (Nat.le_refl _)]
end Go.Proofs.Ythbgjjfhgbkbdaa.hmM
