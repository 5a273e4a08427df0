/-
  A step of pmtu's laws; the walk of PmtuNobody.
-/
import Derived.Test.YtljcekmiockdjaaPmA
namespace Go.Proofs.Ytljcekmiockdjaa.pmC
open Go.ChangeShapes Go.WideShapes Go.ChangeAt Go.RowKit
open Go.Proofs.Ytljcekmiockdjaa.memC Go.Proofs.Ytljcekmiockdjaa.genC Go.Proofs.Ytljcekmiockdjaa.butC Go.Proofs.Ytljcekmiockdjaa.freeC Go.Proofs.Ytljcekmiockdjaa.adC
set_option linter.unusedVariables false
set_option linter.constructorNameAsVariable false
def adrK (s : Bool) (b : List Int) : List Value := .bool s :: b.map (Value.int .u8)
theorem adrK_len {s : Bool} {b : List Int} (h : b.length = 16) : (adrK s b).length = 17 := by simp [adrK, h]
theorem adrK_info {s : Bool} {b : List Int} (h : b.length = 16) : (Try.prog.info? 24).map (·.size) = some (adrK s b).length := by rw [adrK_len h]; exact addr_info
/-- a step: one call -/
structure Sp where
  ls : Bool
  lt : Int
  s : Bool
  a : List Int
  mtu : Int
structure Sp.Ok (r : Sp) : Prop where
  lt : -9223372036854775808 ≤ r.lt ∧ r.lt ≤ 9223372036854775807
  la : r.a.length = 16
  ya : ∀ x ∈ r.a, Byte x
  mtu : -9223372036854775808 ≤ r.mtu ∧ r.mtu ≤ 9223372036854775807
def Sp.cells (r : Sp) : List Value := .bool r.ls :: .int .i64 r.lt :: (adrK r.s r.a ++ [.int .i64 r.mtu])
theorem Sp.cells_len {r : Sp} (h : r.Ok) : r.cells.length = 20 := by unfold Sp.cells; simp [adrK_len h.la]
theorem Sp.at_ {r : Sp} (h : r.Ok) (j : Nat) (v : Value) (hv : (adrK r.s r.a)[j]? = some v) : r.cells[2 + j]? = some v := by
  unfold Sp.cells
  rw [Nat.add_comm, List.getElem?_cons_succ, List.getElem?_cons_succ, List.getElem?_append_left (List.getElem?_eq_some_iff.1 hv).1]
  exact hv
theorem Sp.at_mtu {r : Sp} (h : r.Ok) : r.cells[19]? = some (.int .i64 r.mtu) := by
  unfold Sp.cells
  rw [List.getElem?_cons_succ, List.getElem?_cons_succ, List.getElem?_append_right (by rw [adrK_len h.la]; omega), adrK_len h.la]
  rfl
section
variable {H : Type} {enc : TypeId × Value → H} {w : World} {base : Nat} {spare : Nat → Bool} {held : Bool} {fuel : Nat} {cs : List Value} {x : DataW H × List MemPlace}
theorem fields_adr : Try.prog.underlying 24 = some (.struct (Try.prog.fieldsOf 24)) := by simp [Program.fieldsOf, Try.underlying24]
theorem is_step : Try.prog.underlying 30 = some (.struct (Try.prog.fieldsOf 30)) := by simp [Program.fieldsOf, Try.underlying30]
theorem adr_fs : (Try.prog.fieldsOf 24).toList.map (fun f => (f.type, f.offset)) = [(4, 0), (22, 1)] := by kernel_rfl
theorem stp_fs : (Try.prog.fieldsOf 30).toList.map (fun f => (f.type, f.offset)) = [(4, 0), (2, 1), (24, 2), (3, 19)] := by kernel_rfl
theorem cellsK : Try.prog.cellsOf 24 = 17 ∧ Try.prog.cellsOf 22 = 16 ∧ Try.prog.cellsOf 5 = 1 ∧ Try.prog.cellsOf 3 = 1 ∧ Try.prog.cellsOf 4 = 1 ∧ Try.prog.cellsOf 2 = 1 ∧ Try.prog.cellsOf 30 = 20 := ⟨by kernel_rfl, by kernel_rfl, by kernel_rfl, by kernel_rfl, by kernel_rfl, by kernel_rfl, by kernel_rfl⟩
/-- a field's reading -/
theorem field_read {t : TypeId} {fs : Array Field} {L : List (TypeId × Nat)} (ht : Try.prog.underlying t = some (.struct fs)) (hL : fs.toList.map (fun f => (f.type, f.offset)) = L) (h : DataW.trod enc Try.prog w base spare held fuel t cs = some x) :
    cs.length = Try.prog.cellsOf t ∧ ∃ n : Nat, ∀ (i : Nat) (u : TypeId) (o : Nat), L[i]? = some (u, o) → ∃ y, DataW.trod enc Try.prog w base spare held n u ((cs.drop o).take (Try.prog.cellsOf u)) = some y := by
  obtain ⟨ys, n, -, -, hl, hyl, hg⟩ := DataW.trod_struct ht h
  refine ⟨hl, n, fun i u o hi => ?_⟩
  rw [← hL, List.getElem?_map] at hi
  cases hf : fs.toList[i]? with
  | none => rw [hf] at hi; cases hi
  | some f =>
    rw [hf] at hi
    injection hi with hi
    injection hi with h1 h2
    have hf2 : fs[i]? = some f := by rw [← Array.getElem?_toList]; exact hf
    have := hg i f hf2
    rw [h1, h2] at this
    have hlt : i < ys.length := by rw [hyl]; exact (Array.getElem?_eq_some_iff.1 hf2).1
    exact ⟨ys[i], this.trans (List.getElem?_eq_getElem hlt)⟩
theorem split_at (l : List Value) (a k : Nat) : l.drop a = (l.drop a).take k ++ l.drop (a + k) := by
  rw [← List.drop_drop]; exact (List.take_append_drop k _).symm
set_option maxRecDepth 100000 in
theorem adr_trod (h : DataW.trod enc Try.prog w base spare held fuel 24 cs = some x) : ∃ s b, cs = adrK s b ∧ b.length = 16 ∧ ∀ y ∈ b, Byte y := by
  obtain ⟨hl, n, hg⟩ := field_read fields_adr adr_fs h
  obtain ⟨c1, c2, c3, c4, c5, c6, c7⟩ := cellsK
  obtain ⟨y0, g0⟩ := hg 0 _ _ rfl
  obtain ⟨y1, g1⟩ := hg 1 _ _ rfl
  rw [cellsK.2.2.2.2.1] at g0
  rw [c2] at g1
  rw [c1] at hl
  obtain ⟨s, q0, -⟩ := DataW.trod_bool Try.underlying4 g0
  obtain ⟨xs, m, -, -, -, hxl, he⟩ := DataW.trod_array Try.underlying22 g1
  rw [c3] at he
  obtain ⟨l, hL⟩ : ∃ l, l = (cs.drop 1).take 16 := ⟨_, rfl⟩
  rw [← hL] at he
  have hll : l.length = 16 := by rw [hL, List.length_take, List.length_drop]; omega
  have key : ∀ i, i < 16 → ∃ z, l[i]? = some (.int .u8 z) ∧ Byte z := fun i hi => by
    have h1 := he i hi
    rw [List.getElem?_eq_getElem (show i < xs.length by omega)] at h1
    obtain ⟨z, h2, -, h3⟩ := DataW.trod_int Try.underlying5 h1
    have h4 : ((l.drop (i * 1)).take 1)[0]? = some (.int .u8 z) := by rw [h2]; rfl
    rw [List.getElem?_take_of_lt (by decide), List.getElem?_drop, Nat.mul_one, Nat.add_zero] at h4
    exact ⟨z, h4, bounds_u8 h3⟩
  refine ⟨s, l.map (fun v => match v with | .int _ z => z | _ => 0), ?_, by rw [List.length_map, hll], fun y hy => ?_⟩
  · have e : cs = (cs.drop 0).take 1 ++ ((cs.drop 1).take 16) := by
      have h1 := split_at cs 0 1
      have h2 := split_at cs 1 16
      rw [show cs.drop (1 + 16) = [] from List.drop_eq_nil_of_le (by omega), List.append_nil] at h2
      rw [List.drop_zero, Nat.zero_add, h2] at h1
      exact h1
    rw [q0, ← hL] at e
    rw [e]
    unfold adrK
    rw [List.singleton_append]
    congr 1
    refine List.ext_getElem? fun i => ?_
    rw [List.getElem?_map, List.getElem?_map]
    by_cases hi : i < 16
    · obtain ⟨z, hz, -⟩ := key i hi
      rw [hz]; rfl
    · rw [List.getElem?_eq_none (by omega)]; rfl
  · obtain ⟨v, hv, rfl⟩ := List.mem_map.1 hy
    obtain ⟨i, hi⟩ := List.mem_iff_getElem?.1 hv
    have hi16 : i < 16 := by have := (List.getElem?_eq_some_iff.1 hi).1; omega
    obtain ⟨z, hz, hb⟩ := key i hi16
    rw [hi] at hz
    injection hz with hz
    subst hz
    exact hb
set_option maxRecDepth 100000 in
theorem step_trod (h : DataW.trod enc Try.prog w base spare held fuel 30 cs = some x) : ∃ s : Sp, cs = s.cells ∧ s.Ok := by
  obtain ⟨hl, n, hg⟩ := field_read is_step stp_fs h
  obtain ⟨c1, c2, c3, c4, c5, c6, c7⟩ := cellsK
  rw [c7] at hl
  obtain ⟨y0, g0⟩ := hg 0 _ _ rfl
  obtain ⟨y1, g1⟩ := hg 1 _ _ rfl
  obtain ⟨y2, g2⟩ := hg 2 _ _ rfl
  obtain ⟨y3, g3⟩ := hg 3 _ _ rfl
  rw [c5] at g0
  rw [c6] at g1
  rw [c1] at g2
  rw [c4] at g3
  obtain ⟨k, q0, -⟩ := DataW.trod_bool Try.underlying4 g0
  obtain ⟨z1, q1, -, w1⟩ := DataW.trod_int Try.underlying2 g1
  obtain ⟨s, a, q2, la, ya⟩ := adr_trod g2
  obtain ⟨z3, q3, -, w3⟩ := DataW.trod_int Try.underlying3 g3
  refine ⟨⟨k, z1, s, a, z3⟩, ?_, ⟨bounds_i64 w1, la, ya, bounds_i64 w3⟩⟩
  have e9 : cs = (cs.drop 0).take 1 ++ ((cs.drop 1).take 1 ++ ((cs.drop 2).take 17 ++ ((cs.drop 19).take 1 ++ cs.drop 20))) := (split_at cs 0 1).trans (congrArg (_ ++ ·) ((split_at cs 1 1).trans (congrArg (_ ++ ·) ((split_at cs 2 17).trans (congrArg (_ ++ ·) (split_at cs 19 1))))))
  rw [q0, q1, q2, q3, show cs.drop 20 = [] from List.drop_eq_nil_of_le (by omega), List.append_nil] at e9
  rw [e9]
  rfl
end
section
variable {H : Type} {enc : TypeId × Value → H} {w : World} {base : Nat} {spare : Nat → Bool} {held : Bool} {r : Reach} {b0 : Nat} {v : Value} {d : DataW H} {ps : List MemPlace}
theorem open_step (hval : Value.okWide Try.prog w r b0 30 v) (hd : DataW.Trod enc Try.prog w base spare held 30 v d ps) : ∃ s : Sp, v = .agg s.cells.toArray ∧ s.Ok := by
  obtain ⟨fuel, hf⟩ := hd
  unfold Value.okWide at hval
  rw [is_step] at hval
  obtain ⟨cs, rfl, -⟩ := hval
  obtain ⟨l⟩ := cs
  obtain ⟨y, h1, h2⟩ := step_trod (cs := l) hf
  exact ⟨y, by rw [h1], h2⟩
theorem open_adr (hval : Value.okWide Try.prog w r b0 24 v) (hd : DataW.Trod enc Try.prog w base spare held 24 v d ps) : ∃ s a, v = .agg (adrV s a) ∧ a.length = 16 ∧ ∀ x ∈ a, Byte x := by
  obtain ⟨fuel, hf⟩ := hd
  unfold Value.okWide at hval
  rw [fields_adr] at hval
  obtain ⟨cs, rfl, -⟩ := hval
  obtain ⟨l⟩ := cs
  obtain ⟨s, a, h1, h2, h3⟩ := adr_trod (cs := l) hf
  exact ⟨s, a, by rw [h1]; rfl, h2, h3⟩
end
section
variable {P : Program} {ops : Array Oper} {rest : List Oper} {a : Act} {w : World} {Q : Exit → Act → World → Prop} {d : Option Tmp} {t : TypeId} {p : String} {f : Array Edge} {g : Option (Nat × Bool)}
theorem at_buildP (ty : TypeId) {fs : Array (Nat × Operand)} (h : wpList P ops Q (⟨d, .build ty fs, t, p, f, g⟩ :: rest) a w) : wpList P ops Q (⟨d, .build ty fs, t, p, f, g⟩ :: rest) a w := h
end
/-- the zero value of the program's Cache: to be written anew in the seat -/
def zCch : Array Value := #[.pointer none, .int .i64 0, .int .i64 0, .map none]
theorem zCch_built : Try.prog.built 34 [] = some zCch := by kernel_rfl
/-- what the program's functions do with caches that nobody made -/
structure Nob (NM : World → Value → Prop) : Prop where
  below : ∀ (w w' : World) (pv : Value), NM w pv → Below w.heap.size w w' → NM w' pv
  nil : ∀ w, NM w (.pointer none)
  zero : ∀ w t, w.heap[t]? = some (.cells zCch 34 (0, 0)) → NM w (.pointer (some ⟨t, 0, none⟩))
  get : ∀ (w : World) (pv : Value) (now : Int) (s : Bool) (a : List Int), NM w pv → a.length = 16 → (∀ x ∈ a, Byte x) → Calls Try.prog 10 #[pv, .int .i64 now, .agg (adrV s a)] w (Ret w (.int .i64 0))
  less : ∀ (w : World) (pv : Value) (now : Int) (s : Bool) (a : List Int) (mtu : Int), NM w pv → a.length = 16 → (∀ x ∈ a, Byte x) → Calls Try.prog 11 #[pv, .int .i64 now, .agg (adrV s a), .int .i64 mtu] w (Ret w (.bool false))
  len : ∀ (w : World) (pv : Value) (now : Int), NM w pv → Calls Try.prog 12 #[pv, .int .i64 now] w (Ret w (.int .i64 0))
set_option maxRecDepth 100000 in
set_option maxHeartbeats 8000000 in
theorem nobody_walk {NM : World → Value → Prop} (N : Nob NM) (hal : Alive) (r : Sp) (w : World) (hr : r.Ok) :
    Calls Try.prog 4 #[.agg r.cells.toArray] w (Ret w (.bool true)) := by
  obtain ⟨g1, hg1⟩ : ∃ g, g = w.heap.size := ⟨_, rfl⟩
  obtain ⟨W, hW⟩ : ∃ W, W = w.alloc (.cells r.cells.toArray 30) := ⟨_, rfl⟩
  have HB := Lib.hid (show Below w.heap.size w W by rw [hW]; exact alloc_below _ _)
  have R1 := Lib.hid (show W.heap[g1]? = some (.cells r.cells.toArray 30 (0, 0)) by rw [hW, hg1]; exact heap_alloc_new _ _)
  have AL := Lib.hid hal
  have cellsR := fun (w' : World) (h : Below W.heap.size W w') (k : Nat) (v : Value) (hv : r.cells[k]? = some v) => (show w'.cell? ⟨g1, k, none⟩ = some v from (h.cell (p := ⟨g1, k, none⟩) (lt_of_row R1.out)).trans (by rw [cell_of_row W g1 k _ _ (0, 0) R1.out, List.getElem?_toArray]; exact hv))
  have CL := Lib.hid (fun (w' : World) (h : Below W.heap.size W w') => (show w'.cell? ⟨g1, 1, none⟩ = some (.int .i64 r.lt) from cellsR w' h 1 _ rfl))
  have CM := Lib.hid (fun (w' : World) (h : Below W.heap.size W w') => (show w'.cell? ⟨g1, 19, none⟩ = some (.int .i64 r.mtu) from cellsR w' h 19 _ (Sp.at_mtu hr)))
  have CA := Lib.hid (fun (w' : World) (h : Below W.heap.size W w') => (show ∀ j v, (adrK r.s r.a)[j]? = some v → w'.cell? ⟨g1, 2 + j, none⟩ = some v from fun j v hv => cellsR w' h _ v (Sp.at_ hr j v hv)))
  have IA := Lib.hid (adrK_info (s := r.s) hr.la)
  have GE := Lib.hid (fun w' pv (h : NM w' pv) => (show Calls Try.prog 10 #[pv, .int .i64 r.lt, .agg (adrK r.s r.a).toArray] w' (Ret w' (.int .i64 0)) from N.get w' pv r.lt r.s r.a h hr.la hr.ya))
  have LE := Lib.hid (fun w' pv (h : NM w' pv) => (show Calls Try.prog 11 #[pv, .int .i64 r.lt, .agg (adrK r.s r.a).toArray, .int .i64 r.mtu] w' (Ret w' (.bool false)) from N.less w' pv r.lt r.s r.a r.mtu h hr.la hr.ya))
  have LN := Lib.hid (fun w' pv (h : NM w' pv) => N.len w' pv r.lt h)
  have NB := Lib.hid N.below
  have NZ := Lib.hid N.zero
  have NN := Lib.hid N.nil
  obtain ⟨CT, hCT⟩ : ∃ C, C = zCch := ⟨_, rfl⟩
  have TB := Lib.hid zCch_built
  rw [← hCT] at TB NZ
  clear cellsR N hal hCT
  go_enter Try.func4, Try.ntmps4
  go_upto_region 1 with fail
  rw [← hW]
  rw [← hg1]
  clear hW hg1 hr
  generalize r.cells.toArray = C at *
  generalize adrK r.s r.a = KA at *
  generalize r.lt = lt at *
  generalize r.mtu = mt at *
  obtain ⟨W3, hW3⟩ : ∃ W3, W3 = W.alloc (.cells CT 34) := ⟨_, rfl⟩
  obtain ⟨W4, hW4⟩ : ∃ W4, W4 = W3.alloc (.cells #[.pointer none, .pointer (some ⟨W.heap.size, 0, none⟩)] 31) := ⟨_, rfl⟩
  have RT := Lib.hid (show W3.heap[W.heap.size]? = some (.cells CT 34 (0, 0)) by rw [hW3]; exact heap_alloc_new _ _)
  have RS := Lib.hid (show W4.heap[W3.heap.size]? = some (.cells #[.pointer none, .pointer (some ⟨W.heap.size, 0, none⟩)] 31 (0, 0)) by rw [hW4]; exact heap_alloc_new _ _)
  have B3 := Lib.hid (show Below W.heap.size W W3 by rw [hW3]; exact alloc_below _ _)
  have B4 := Lib.hid (show Below W3.heap.size W3 W4 by rw [hW4]; exact alloc_below _ _)
  have N4 := Lib.hid (show ∀ k, k < 2 → ∃ pv, W4.cell? ⟨W3.heap.size, k, none⟩ = some pv ∧ NM W4 pv from fun k hk => by
    rcases Nat.lt_succ_iff_lt_or_eq.1 hk with hk | rfl
    · obtain rfl : k = 0 := by omega
      exact ⟨_, cell_of_row W4 _ 0 _ _ (0, 0) RS.out, NN.out _⟩
    · exact ⟨_, cell_of_row W4 _ 1 _ _ (0, 0) RS.out, NZ.out _ _ ((B4.out.block _ (lt_of_row RT.out)).trans RT.out)⟩)
  have HW4 := Lib.hid (show Below W.heap.size W W4 from B3.out.trans (B4.out.mono B3.out.size))
  obtain ⟨gs, hgs⟩ : ∃ g, g = W.heap.size + 1 := ⟨_, rfl⟩
  have hg3 : W3.heap.size = gs := by rw [hW3, hgs]; simp
  rw [hg3] at N4
  have GSL := Lib.hid (show gs < W4.heap.size by rw [← hg3]; exact lt_of_row RS.out)
  have HS3 := Lib.hid hW3
  have HS4 := Lib.hid hW4
  clear hW3 hW4 RT RS B3 B4 hg3
  go_upto_region 2 with (first
    | (with_reducible refine at_buildP 34 ?_; refine adC.wpList_zero rfl 34 rfl CT TB.out ?_))
  try rw [← HS3.out]
  try rw [← hgs]
  try rw [← HS4.out]
  clear hgs HS3 HS4 TB NZ NN
  go_loopw [9] (fun u wr => ∃ k : Nat, u = .int .i64 k ∧ k ≤ 2 ∧ Below W4.heap.size W4 wr) (fun u _ => 10 - (intOf u).toNat)
  case atStart => exact ⟨0, rfl, by decide, Below.refl _ _⟩
  case round =>
    obtain ⟨k, rfl, hk, hb⟩ := hrel
    have BW := Lib.hid hb
    have BWW := Lib.hid (show Below W.heap.size W wr from HW4.out.trans (hb.mono HW4.out.size))
    by_cases hk2 : k < 2
    rotate_left
    · have q : ¬ (k : Int) < 2 := by omega
      clear hb hk hk2
      go_wp2_with (first
        | (go_at_call 9; refine (AL.out _).mono ?_; rintro e w9 ⟨rfl, hb⟩; have HB9 := Lib.hid hb; clear hb))
      go_ret
      have b2 := HB.out.trans (BWW.out.mono HB.out.size)
      exact ⟨rfl, b2.trans (HB9.out.mono b2.size)⟩
    · have q : (k : Int) < 2 := by omega
      have w1 : IntKind.i64.wrap ((k : Int) + 1) = (k : Int) + 1 := IntWalk.i64_in _ (by omega)
      obtain ⟨pv, hcv, hnm⟩ := N4.out k hk2
      have cv : wr.cell? ⟨gs, k, none⟩ = some pv := (hb.cell (p := ⟨gs, k, none⟩) GSL.out).trans hcv
      have NMr := Lib.hid (NB.out _ _ _ hnm hb)
      have HK := Lib.hid hk2
      have BB := Lib.hid (Below.refl wr.heap.size wr)
      have ca := Lib.hid (CA.out wr BWW.out)
      have cl := CL.out wr BWW.out
      clear hb hk hk2 hcv hnm
      go_upto_region 4 with fail
      clear cv
      go_wp2_with (first
        | go_skip
        | (with_reducible refine atC.at_load 24 16 ?_; refine pkC.wpList_load_partG (by kernel_rfl) 24 (.tmp 16) (by kernel_rfl) g1 2 (by kernel_rfl) KA _ ca.out Try.underlying24 rfl IA.out ?_)
        | (with_reducible refine atC.at_load 24 24 ?_; refine pkC.wpList_load_partG (by kernel_rfl) 24 (.tmp 24) (by kernel_rfl) g1 2 (by kernel_rfl) KA _ ca.out Try.underlying24 rfl IA.out ?_)
        | (go_at_call 10; (with_reducible refine (GE.out _ _ (NB.out _ _ _ NMr.out BB.out)).mono ?_); rintro e w5 ⟨rfl, hb⟩
           have BB := Lib.hid (BB.out.trans (hb.mono BB.out.size))
           have ca := Lib.hid (CA.out w5 (BWW.out.trans (BB.out.mono BWW.out.size)))
           have cl := CL.out w5 (BWW.out.trans (BB.out.mono BWW.out.size))
           have cm := CM.out w5 (BWW.out.trans (BB.out.mono BWW.out.size))
           clear hb)
        | (go_at_call 11; (with_reducible refine (LE.out _ _ (NB.out _ _ _ NMr.out BB.out)).mono ?_); rintro e w6 ⟨rfl, hb⟩
           have BB := Lib.hid (BB.out.trans (hb.mono BB.out.size))
           have cl := CL.out w6 (BWW.out.trans (BB.out.mono BWW.out.size))
           clear hb)
        | (go_at_call 12; (with_reducible refine (LN.out _ _ (NB.out _ _ _ NMr.out BB.out)).mono ?_); rintro e w7 ⟨rfl, hb⟩
           have BB := Lib.hid (BB.out.trans (hb.mono BB.out.size))
           clear hb))
      go_roundw
      case rel => exact ⟨k + 1, by simp, by have := HK.out; omega, BW.out.trans (BB.out.mono BW.out.size)⟩
      case measure => have := HK.out; simp [intOf]; omega
end Go.Proofs.Ytljcekmiockdjaa.pmC
