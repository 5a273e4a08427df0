/-
  6 texts of a proof, joined.
-/
import Derived.Test.YtjdenhkicikfkaaMg10
import Derived.Test.YtjdenhkicikfkaaMg13
import Derived.Test.YtjdenhkicikfkaaMg2

/-
  What the laws ask of the program's functions; theirs, ten, alive.
-/
namespace Go.Proofs.Ytjdenhkicikfkaa.rtC
open Go.ChangeShapes Go.WideShapes Go.ChangeAt Go.RowKit
open Go.Proofs.Ytjdenhkicikfkaa.memC Go.Proofs.Ytjdenhkicikfkaa.genC Go.Proofs.Ytjdenhkicikfkaa.butC Go.Proofs.Ytjdenhkicikfkaa.freeC Go.Proofs.Ytjdenhkicikfkaa.adC
set_option linter.unusedVariables false
/-- all but the named blocks stand -/
structure Fs (S : Nat → Prop) (w w' : World) : Prop where
  os : w'.os = w.os
  tape : w'.tape = w.tape
  output : w'.output = w.output
  size : w.heap.size ≤ w'.heap.size
  block : ∀ k, k < w.heap.size → ¬ S k → w'.heap[k]? = w.heap[k]?
section
variable {S S' : Nat → Prop} {w w1 w2 w' : World}
theorem Fs.below (h : Below w.heap.size w w1) : Fs S w w1 := ⟨h.os, h.tape, h.output, h.size, fun k hk _ => h.block k hk⟩
theorem Fs.refl (w : World) : Fs S w w := Fs.below (Below.refl _ _)
theorem Fs.trans (h : Fs S w w1) (h' : Fs S w1 w2) : Fs S w w2 :=
  ⟨h'.os.trans h.os, h'.tape.trans h.tape, h'.output.trans h.output, Nat.le_trans h.size h'.size, fun k hk hn => (h'.block k (Nat.lt_of_lt_of_le hk h.size) hn).trans (h.block k hk hn)⟩
theorem Fs.to_below {B : Nat} (h : Fs S w w1) (hB : ∀ k, S k → B ≤ k) (hw : B ≤ w.heap.size) : Below B w w1 :=
  ⟨h.os, h.tape, h.output, h.size, fun k hk => h.block k (by omega) (fun hs => by have := hB k hs; omega)⟩
theorem Fs.mono (h : Fs S w w1) (hS : ∀ k, k < w.heap.size → S k → S' k) : Fs S' w w1 := ⟨h.os, h.tape, h.output, h.size, fun k hk hn => h.block k hk fun hs => hn (hS k hk hs)⟩
theorem Fs.row (h : Fs S w w1) {g : Nat} {o : Obj} (hr : w.heap[g]? = some o) (hn : ¬ S g) : w1.heap[g]? = some o := by rw [h.block g (Array.getElem?_eq_some_iff.1 hr).1 hn]; exact hr
theorem setR_below {w w1 : World} {b g : Nat} (h : Below b w w1) (hg : b ≤ g) (cs : Array Value) : Below b w (w1.setRow g cs) :=
  ⟨h.os, h.tape, h.output, by simpa using h.size, fun k hk => by rw [setRow_other _ _ _ _ (by omega)]; exact h.block k hk⟩
/-- the slice at A, of n ways, lies in one of the blocks B to C -/
structure RowW (w : World) (B C : Nat) (A : Option Addr) (n : Nat) (l : List Wy) : Prop where
  len : l.length = n
  le : C ≤ w.heap.size
  at_ : 0 < n → ∃ b o, A = some ⟨b, o, none⟩ ∧ B ≤ b ∧ b < C ∧ ∀ i y, l[i]? = some y → ∀ j v, (wyL y)[j]? = some v → w.cell? ⟨b, o + i * 37 + j, none⟩ = some v
variable {B C : Nat} {A : Option Addr} {n : Nat} {l : List Wy}
theorem RowW.fs (h : RowW w B C A n l) (F : Fs S w w') (hS : ∀ k, B ≤ k → k < C → ¬ S k) : RowW w' B C A n l :=
  ⟨h.len, Nat.le_trans h.le F.size, fun h0 => by
    obtain ⟨b, o, e, h1, h2, hc⟩ := h.at_ h0
    refine ⟨b, o, e, h1, h2, fun i y hi j v hv => ?_⟩
    rw [World.cell?_of_block (w := w) (F.block b (Nat.lt_of_lt_of_le h2 h.le) (hS b h1 h2))]
    exact hc i y hi j v hv⟩
theorem RowW.below (h : RowW w B C A n l) {D : Nat} (hb : Below D w w') (hD : C ≤ D) : RowW w' B C A n l :=
  ⟨h.len, Nat.le_trans h.le hb.size, fun h0 => by
    obtain ⟨b, o, e, h1, h2, hc⟩ := h.at_ h0
    exact ⟨b, o, e, h1, h2, fun i y hi j v hv => (hb.cell (p := ⟨b, o + i * 37 + j, none⟩) (by show b < D; omega)).trans (hc i y hi j v hv)⟩⟩
end
/-- what Add and Drop give: a number; what the table is then -/
def AddR (Tb : World → (Nat → Prop) → Nat → List Wy → Prop) (w : World) (S : Nat → Prop) (t : Nat) (r : Int) (st : List Wy) (e : Ending) (w' : World) : Prop :=
  ∃ S', e = .returned (.int .i64 r) ∧ Tb w' S' t st ∧ (∀ k, S' k → S k ∨ w.heap.size ≤ k) ∧ Fs S w w'
/-- what Find gives -/
def FindR (w : World) (st : List Wy) (s : Bool) (a : List Int) (e : Ending) (w' : World) : Prop :=
  ∃ v r, e = .returned (.tuple #[.agg (wyV v), .int .i64 r]) ∧ foundR st s a v r ∧ Below w.heap.size w w'
/-- what All gives: a row of one's own -/
def AllR (w : World) (st : List Wy) (e : Ending) (w' : World) : Prop :=
  ∃ A n c l, e = .returned (.slice A n c) ∧ n ≤ c ∧ c ≤ 9223372036854775807 ∧ l.Perm st ∧ l.Pairwise leW ∧ RowW w' w.heap.size w'.heap.size A n l ∧ Below w.heap.size w w'
/-- the program's functions; Tb w S t st: at t lies a table of the ways st, in the blocks S -/
structure FrR (Tb : World → (Nat → Prop) → Nat → List Wy → Prop) : Prop where
  keep : ∀ (w w' : World) (S : Nat → Prop) (t : Nat) (st : List Wy), Tb w S t st → w.heap.size ≤ w'.heap.size → (∀ k, S k → w'.heap[k]? = w.heap[k]?) → Tb w' S t st
  lt : ∀ (w : World) (S : Nat → Prop) (t : Nat) (st : List Wy), Tb w S t st → ∀ k, S k → k < w.heap.size
  new : ∀ (w : World), Calls Try.prog 6 #[] w fun e w' => ∃ t S, e = .returned (.pointer (some ⟨t, 0, none⟩)) ∧ Tb w' S t [] ∧ (∀ k, S k → w.heap.size ≤ k) ∧ Below w.heap.size w w'
  add : ∀ (w : World) (S : Nat → Prop) (t : Nat) (st : List Wy) (y : Wy), Tb w S t st → Inv st → y.Ok → Calls Try.prog 8 #[.pointer (some ⟨t, 0, none⟩), .agg (wyV y)] w (AddR Tb w S t (addE st y) (addS st y))
  drop : ∀ (w : World) (S : Nat → Prop) (t : Nat) (st : List Wy) (y : Wy), Tb w S t st → Inv st → y.Ok → Calls Try.prog 15 #[.pointer (some ⟨t, 0, none⟩), .agg (adrV y.s y.a), .int .i64 y.len] w (AddR Tb w S t (dropE st y) (dropS st y))
  find : ∀ (w : World) (S : Nat → Prop) (t : Nat) (st : List Wy) (s : Bool) (a : List Int), Tb w S t st → Inv st → a.length = 16 → (∀ x ∈ a, Byte x) → Calls Try.prog 10 #[.pointer (some ⟨t, 0, none⟩), .agg (adrV s a)] w (FindR w st s a)
  all : ∀ (w : World) (S : Nat → Prop) (t : Nat) (st : List Wy), Tb w S t st → Inv st → Calls Try.prog 11 #[.pointer (some ⟨t, 0, none⟩)] w (AllR w st)
/-- the laws' sign that the program is there -/
def Alive : Prop := ∀ w : World, Calls Try.prog 14 #[] w (Ret w (.bool true))
/-! ### literals -/
section
variable {P : Program} {ops : Array Oper} {rest : List Oper} {a : Act} {w : World} {Q : Exit → Act → World → Prop} {d : Option Tmp} {t : TypeId} {p : String} {f : Array Edge} {g : Option (Nat × Bool)}
theorem at_build (ty : TypeId) {fs : Array (Nat × Operand)} (h : wpList P ops Q (⟨d, .build ty fs, t, p, f, g⟩ :: rest) a w) : wpList P ops Q (⟨d, .build ty fs, t, p, f, g⟩ :: rest) a w := h
end
theorem built_runR {P : Program} {fr : Act} {o : Oper} {w : World} {T : TypeId} {fs : Array (Nat × Operand)} {L : List (Nat × Value)} {C : Array Value} (ho : o.op = .build T fs) (hL : fs.toList.map (fun p => (p.1, fr.eval p.2)) = L) (hb : P.built T L = some C) :
    (execOp fr.eval o).run P w = .ok (.value (.agg C)) w := by
  unfold execOp
  have e1 : (fs.map fun p => (p.1, fr.eval p.2)) = L.toArray := by rw [← hL]; apply Array.ext'; simp
  have h : (Instr.build T L.toArray).run P w = .ok (.agg C) w := run_build w T L.toArray C (by simpa using hb)
  simp [ho, e1, h, Result.andThen_ok]
theorem len_succ {l : List Int} {n : Nat} (h : l.length = n + 1) : ∃ x r, l = x :: r ∧ r.length = n := by
  cases l with
  | nil => cases h
  | cons x r => exact ⟨x, r, rfl, by simpa using h⟩
theorem len16 {l : List Int} (h : l.length = 16) : ∃ x0 x1 x2 x3 x4 x5 x6 x7 x8 x9 x10 x11 x12 x13 x14 x15, l = [x0, x1, x2, x3, x4, x5, x6, x7, x8, x9, x10, x11, x12, x13, x14, x15] := by
  obtain ⟨x0, l0, rfl, h0⟩ := len_succ h
  obtain ⟨x1, l1, rfl, h1⟩ := len_succ h0
  obtain ⟨x2, l2, rfl, h2⟩ := len_succ h1
  obtain ⟨x3, l3, rfl, h3⟩ := len_succ h2
  obtain ⟨x4, l4, rfl, h4⟩ := len_succ h3
  obtain ⟨x5, l5, rfl, h5⟩ := len_succ h4
  obtain ⟨x6, l6, rfl, h6⟩ := len_succ h5
  obtain ⟨x7, l7, rfl, h7⟩ := len_succ h6
  obtain ⟨x8, l8, rfl, h8⟩ := len_succ h7
  obtain ⟨x9, l9, rfl, h9⟩ := len_succ h8
  obtain ⟨x10, l10, rfl, h10⟩ := len_succ h9
  obtain ⟨x11, l11, rfl, h11⟩ := len_succ h10
  obtain ⟨x12, l12, rfl, h12⟩ := len_succ h11
  obtain ⟨x13, l13, rfl, h13⟩ := len_succ h12
  obtain ⟨x14, l14, rfl, h14⟩ := len_succ h13
  obtain ⟨x15, l15, rfl, h15⟩ := len_succ h14
  obtain rfl := List.eq_nil_of_length_eq_zero h15
  exact ⟨_, _, _, _, _, _, _, _, _, _, _, _, _, _, _, _, rfl⟩
set_option maxRecDepth 100000 in
theorem wy_built0 (s t v : Bool) (a0 a1 a2 a3 a4 a5 a6 a7 a8 a9 a10 a11 a12 a13 a14 a15 b0 b1 b2 b3 b4 b5 b6 b7 b8 b9 b10 b11 b12 b13 b14 b15 ln pt : Int) : Try.prog.built 35 [(0, .agg (adrK s [a0, a1, a2, a3, a4, a5, a6, a7, a8, a9, a10, a11, a12, a13, a14, a15]).toArray), (1, .int .i64 ln), (2, .int .i64 pt), (3, .bool v), (4, .agg (adrK t [b0, b1, b2, b3, b4, b5, b6, b7, b8, b9, b10, b11, b12, b13, b14, b15]).toArray)] = some (wyV ⟨s, [a0, a1, a2, a3, a4, a5, a6, a7, a8, a9, a10, a11, a12, a13, a14, a15], ln, pt, v, t, [b0, b1, b2, b3, b4, b5, b6, b7, b8, b9, b10, b11, b12, b13, b14, b15]⟩) := by kernel_rfl
theorem wy_built {y : Wy} (h : y.Ok) : Try.prog.built 35 [(0, .agg (adrK y.s y.a).toArray), (1, .int .i64 y.len), (2, .int .i64 y.port), (3, .bool y.via), (4, .agg (adrK y.t y.b).toArray)] = some (wyV y) := by
  obtain ⟨a0, a1, a2, a3, a4, a5, a6, a7, a8, a9, a10, a11, a12, a13, a14, a15, ha⟩ := len16 h.la
  obtain ⟨b0, b1, b2, b3, b4, b5, b6, b7, b8, b9, b10, b11, b12, b13, b14, b15, hb⟩ := len16 h.lb
  cases y
  simp only at ha hb ⊢
  rw [ha, hb]
  exact wy_built0 _ _ _ _ _ _ _ _ _ _ _ _ _ _ _ _ _ _ _ _ _ _ _ _ _ _ _ _ _ _ _ _ _ _ _ _ _
set_option maxRecDepth 100000 in
theorem pfx_built0 (s : Bool) (a0 a1 a2 a3 a4 a5 a6 a7 a8 a9 a10 a11 a12 a13 a14 a15 ln : Int) : Try.prog.built 35 [(0, .agg (adrK s [a0, a1, a2, a3, a4, a5, a6, a7, a8, a9, a10, a11, a12, a13, a14, a15]).toArray), (1, .int .i64 ln)] = some (wyV ⟨s, [a0, a1, a2, a3, a4, a5, a6, a7, a8, a9, a10, a11, a12, a13, a14, a15], ln, 0, false, false, zs 16⟩) := by kernel_rfl
/-- a way's prefix alone -/
def pfx (y : Wy) : Wy := ⟨y.s, y.a, y.len, 0, false, false, zs 16⟩
theorem pfx_ok {y : Wy} (h : y.Ok) : (pfx y).Ok := ⟨h.la, zs_len 16, h.ya, zs_byte 16, h.len, by unfold pfx; simp⟩
theorem pfx_iff {y z : Wy} : pfx y = pfx z ↔ sameK y z = true := by
  rw [sameK_iff]
  unfold pfx
  constructor
  · intro h; injection h with h1 h2 h3; exact ⟨h1, h2, h3⟩
  · rintro ⟨h1, h2, h3⟩; rw [h1, h2, h3]
theorem pfx_built {y : Wy} (h : y.Ok) : Try.prog.built 35 [(0, .agg (adrK y.s y.a).toArray), (1, .int .i64 y.len)] = some (wyV (pfx y)) := by
  obtain ⟨a0, a1, a2, a3, a4, a5, a6, a7, a8, a9, a10, a11, a12, a13, a14, a15, ha⟩ := len16 h.la
  unfold pfx
  rw [ha]
  exact pfx_built0 _ _ _ _ _ _ _ _ _ _ _ _ _ _ _ _ _ _
theorem adrK_info {s : Bool} {b : List Int} (h : b.length = 16) : (Try.prog.info? 25).map (·.size) = some (adrK s b).length := by rw [adrK_len h]; exact addr_info
theorem wyL_info {y : Wy} (h : y.Ok) : (Try.prog.info? 35).map (·.size) = some (wyL y).length := by rw [wyL_len h]; exact wy_info
theorem rwyL_info {y : Wy} (h : y.Ok) : (Try.prog.info? 30).map (·.size) = some (wyL y).length := by rw [wyL_len h]; exact rwy_info
theorem wyV_info {y : Wy} (h : y.Ok) : (Try.prog.info? 35).map (·.size) = some (wyV y).size := by rw [wyV_size h]; exact wy_info
theorem wy_zsize {y z : Wy} (h : y.Ok) (h' : z.Ok) : (wyV y).size = (wyV z).size := by rw [wyV_size h, wyV_size h']
theorem wyV_row {w : World} {g : Nat} {T : TypeId} {y : Wy} (R : w.heap[g]? = some (.cells (wyV y) T (0, 0))) {k : Nat} {v : Value} (h : (wyL y)[k]? = some v) : w.cell? ⟨g, k, none⟩ = some v := by
  rw [cell_of_row w g k _ T (0, 0) R]
  unfold wyV
  rw [List.getElem?_toArray]
  exact h
set_option maxRecDepth 100000 in
set_option maxHeartbeats 1000000 in
theorem theirs_any (y : Wy) (w : World) (h : y.Ok) : Calls Try.prog 9 #[.agg (wyV y)] w (Ret w (.agg (wyV y))) := by
  have hzv := zeroWy
  obtain ⟨W0, hW0⟩ : ∃ W, W = w.alloc (.cells (wyV y) 30) := ⟨_, rfl⟩
  obtain ⟨W, hW⟩ : ∃ W, W = W0.alloc (.cells (wyV zWy) 35) := ⟨_, rfl⟩
  have z0 : W0.heap.size = w.heap.size + 1 := by rw [hW0, alloc_size]
  have B0 : Below w.heap.size w W0 := by rw [hW0]; exact alloc_below _ _
  have B1 : Below W0.heap.size W0 W := by rw [hW]; exact alloc_below _ _
  have HB := Lib.hid (show Below w.heap.size w W from B0.trans (B1.mono (by omega)))
  have R : W.heap[w.heap.size]? = some (.cells (wyV y) 30 (0, 0)) := by rw [B1.block _ (by omega), hW0]; exact heap_alloc_new _ _
  have RZ := Lib.hid (show W.heap[w.heap.size + 1]? = some (.cells (wyV zWy) 35 (0, 0)) by rw [hW, ← z0]; exact heap_alloc_new _ _)
  have p17 := wyV_row R (wy_len h)
  have p18 := wyV_row R (wy_port h)
  have p19 := wyV_row R (wy_hasvia h)
  have CS := Lib.hid (show ∀ q v, (adrK y.s y.a)[q]? = some v → W.cell? ⟨w.heap.size, 0 + q, none⟩ = some v from fun q v hv => wyV_row R (wy_src h q v hv))
  have CT := Lib.hid (show ∀ q v, (adrK y.t y.b)[q]? = some v → W.cell? ⟨w.heap.size, 20 + q, none⟩ = some v from fun q v hv => wyV_row R (wy_via h q v hv))
  have IS := Lib.hid (adrK_info (s := y.s) h.la)
  have IT := Lib.hid (adrK_info (s := y.t) h.lb)
  have BT := Lib.hid (wy_built h)
  have IQ := Lib.hid (wyV_info h)
  have SQ := Lib.hid (wy_zsize zWy_ok h)
  have OQ := Lib.hid (wy_ones y)
  generalize adrK y.s y.a = KA at *
  generalize adrK y.t y.b = KB at *
  generalize wyV y = CP at *
  generalize wyV zWy = ZS at *
  generalize y.len = a1 at *
  generalize y.port = a2 at *
  generalize y.via = a3 at *
  clear B0 B1 R h
  go_enter Try.func9, Try.ntmps9
  go_upto_region 1 with fail
  rw [← hW0, ← hW]
  try rw [z0]
  clear hW0 hW z0 hzv
  go_wp2_with (first
    | (refine pkC.wpList_load_partG (by kernel_rfl) 25 (.tmp 3) rfl w.heap.size 0 (by kernel_rfl) KA _ CS.out Try.underlying25 rfl IS.out ?_)
    | (refine pkC.wpList_load_partG (by kernel_rfl) 25 (.tmp 11) rfl w.heap.size 20 (by kernel_rfl) KB _ CT.out Try.underlying25 rfl IT.out ?_)
    | (with_reducible refine at_build 35 ?_; refine wpList_runG (by kernel_rfl) _ (built_runR (T := 35) (L := [(0, .agg KA.toArray), (1, .int .i64 a1), (2, .int .i64 a2), (3, .bool a3), (4, .agg KB.toArray)]) rfl rfl BT.out) ?_)
    | (refine wpList_store_row rfl 35 (.tmp 2) (.tmp 13) rfl (w.heap.size + 1) _ rfl rfl _ _ RZ.out IQ.out SQ.out OQ.out ?_))
  refine bodyPost_ret (v := .agg CP) (Go.results_cell_row Try.results9 _ _ (w.heap.size + 1) _ _ _ _ (by rfl) (setRow_heap _ _ _ _ _ _ RZ.out) Try.underlying35 rfl IQ.out) rfl ?_
  exact ⟨rfl, setR_below HB.out (by omega) _⟩
end Go.Proofs.Ytjdenhkicikfkaa.rtC

/-
  The laws' sign that the program is there.
-/
namespace Go.Proofs.Ytjdenhkicikfkaa.rtC
open Go.ChangeShapes Go.WideShapes Go.ChangeAt Go.RowKit
open Go.Proofs.Ytjdenhkicikfkaa.memC Go.Proofs.Ytjdenhkicikfkaa.genC Go.Proofs.Ytjdenhkicikfkaa.butC Go.Proofs.Ytjdenhkicikfkaa.freeC Go.Proofs.Ytjdenhkicikfkaa.adC
set_option linter.unusedVariables false
theorem eql_ptr_nil {P : Program} (w : World) {tp te : TypeId} (a : Addr) (hp : P.underlying tp = some (.pointer te)) : (binOp .eql tp (.pointer (some a)) (.pointer none)).run P w = .ok (.bool false) w := by
  have h : ∀ d : Nat, (Op.equalIn (d + 1) tp (.pointer (some a)) (.pointer none)).run P w = .ok false w := fun d => by
    simp [Op.equalIn, run_underlying hp]
  simp only [binOp]
  simp [Op.equal, Op.maxDepth, h 9999]
def tenB (b c d : Int) : List Int := 10 :: b :: c :: d :: zs 12
theorem tenB_len (b c d : Int) : (tenB b c d).length = 16 := rfl
theorem ten_arr (b c d : Int) : Try.prog.built 23 [(0, .int .u8 10), (1, .int .u8 b), (2, .int .u8 c), (3, .int .u8 d)] = some (vI (tenB b c d)) := by kernel_rfl
theorem ten_adr (b c d : Int) : Try.prog.built 25 [(1, .agg (vI (tenB b c d)))] = some (adrV false (tenB b c d)) := by kernel_rfl
set_option maxRecDepth 100000 in
theorem ten_any (b c d : Int) (w : World) : Calls Try.prog 26 #[.int .u8 b, .int .u8 c, .int .u8 d] w (Ret w (.agg (adrV false (tenB b c d)))) := by
  have hzv := zeroAdr
  obtain ⟨W, hW⟩ : ∃ W, W = w.alloc (.cells zAdr 25) := ⟨_, rfl⟩
  have HB := Lib.hid (show Below w.heap.size w W by rw [hW]; exact alloc_below _ _)
  have RZ := Lib.hid (show W.heap[w.heap.size]? = some (.cells zAdr 25 (0, 0)) by rw [hW]; exact heap_alloc_new _ _)
  have B1 := Lib.hid (ten_arr b c d)
  have B2 := Lib.hid (ten_adr b c d)
  have IQ := Lib.hid (show (Try.prog.info? 25).map (·.size) = some (adrV false (tenB b c d)).size by rw [adrV_size (tenB_len b c d)]; exact addr_info)
  have SQ := Lib.hid (show zAdr.size = (adrV false (tenB b c d)).size by rw [adrV_size (tenB_len b c d)]; rfl)
  have OQ := Lib.hid (adrV_one false (tenB b c d))
  generalize adrV false (tenB b c d) = CP at *
  generalize vI (tenB b c d) = CV at *
  generalize zAdr = ZS at *
  go_enter Try.func26, Try.ntmps26
  go_upto_region 1 with fail
  rw [← hW]
  clear hW hzv
  go_wp2_with (first
    | (with_reducible refine at_build 23 ?_; refine wpList_runG (by kernel_rfl) _ (built_runR (T := 23) (L := [(0, .int .u8 10), (1, .int .u8 b), (2, .int .u8 c), (3, .int .u8 d)]) rfl rfl B1.out) ?_)
    | (with_reducible refine at_build 25 ?_; refine wpList_runG (by kernel_rfl) _ (built_runR (T := 25) (L := [(1, .agg CV)]) rfl rfl B2.out) ?_)
    | (refine wpList_store_row rfl 25 (.tmp 6) (.tmp 11) rfl w.heap.size _ rfl rfl _ _ RZ.out IQ.out SQ.out OQ.out ?_))
  refine bodyPost_ret (v := .agg CP) (Go.results_cell_row Try.results26 _ _ w.heap.size _ _ _ _ (by rfl) (setRow_heap _ _ _ _ _ _ RZ.out) Try.underlying25 rfl IQ.out) rfl ?_
  exact ⟨rfl, setR_below HB.out (Nat.le_refl _) _⟩
/-! ### alive -/
def wA : Wy := ⟨false, tenB 0 0 0, 8, 1, false, false, zs 16⟩
def wB : Wy := ⟨false, tenB 1 0 0, 16, 2, false, false, zs 16⟩
theorem ten_byte {b c d : Int} (hb : Byte b) (hc : Byte c) (hd : Byte d) : ∀ x ∈ tenB b c d, Byte x := fun x hx => by
  unfold tenB at hx
  rcases List.mem_cons.1 hx with rfl | hx
  · unfold Byte; decide
  · rcases List.mem_cons.1 hx with rfl | hx
    · exact hb
    · rcases List.mem_cons.1 hx with rfl | hx
      · exact hc
      · rcases List.mem_cons.1 hx with rfl | hx
        · exact hd
        · exact zs_byte 12 x hx
theorem wA_ok : wA.Ok := ⟨rfl, rfl, ten_byte (by unfold Byte; decide) (by unfold Byte; decide) (by unfold Byte; decide), zs_byte 16, by unfold wA; decide, by unfold wA; decide⟩
theorem wB_ok : wB.Ok := ⟨rfl, rfl, ten_byte (by unfold Byte; decide) (by unfold Byte; decide) (by unfold Byte; decide), zs_byte 16, by unfold wB; decide, by unfold wB; decide⟩
theorem addE_A : addE [] wA = 0 := by kernel_rfl
theorem addE_B : addE [wA] wB = 0 := by kernel_rfl
theorem addS_A : addS [] wA = [wA] := by unfold addS; rw [if_pos addE_A]; rfl
theorem addS_B : addS [wA] wB = [wA, wB] := by unfold addS; rw [if_pos addE_B]; rfl
theorem inv_A : Inv [wA] := addS_A ▸ Inv.nil.add wA_ok
theorem inv_B : Inv [wA, wB] := addS_B ▸ inv_A.add wB_ok
theorem found_B {v : Wy} {r : Int} (h : foundR [wA, wB] false (tenB 1 2 3) v r) : v = wB ∧ r = 0 := by
  have m : mayL false (tenB 1 2 3) = true := by kernel_rfl
  have l : liesW false (tenB 1 2 3) wB = true := by kernel_rfl
  rcases h with ⟨h1, -⟩ | ⟨-, h2, -⟩ | ⟨-, h2, -, h4, h5⟩
  · rw [m] at h1; cases h1
  · rw [h2 wB (by simp)] at l; cases l
  · refine ⟨?_, h5⟩
    have := h4 wB (by simp) l
    rcases List.mem_cons.1 h2 with rfl | h2
    · exfalso
      have e1 : wA.len = 8 := rfl
      have e2 : wB.len = 16 := rfl
      omega
    · exact List.mem_singleton.1 h2
theorem found_A {v : Wy} {r : Int} (h : foundR [wA, wB] false (tenB 2 0 0) v r) : v = wA ∧ r = 0 := by
  have m : mayL false (tenB 2 0 0) = true := by kernel_rfl
  have l : liesW false (tenB 2 0 0) wA = true := by kernel_rfl
  have l2 : liesW false (tenB 2 0 0) wB = false := by kernel_rfl
  rcases h with ⟨h1, -⟩ | ⟨-, h2, -⟩ | ⟨-, h2, h3, -, h5⟩
  · rw [m] at h1; cases h1
  · rw [h2 wA (by simp)] at l; cases l
  · refine ⟨?_, h5⟩
    rcases List.mem_cons.1 h2 with rfl | h2
    · rfl
    · rw [List.mem_singleton.1 h2, l2] at h3; cases h3
theorem wA_built : Try.prog.built 35 [(0, .agg (adrV false (tenB 0 0 0))), (1, .int .i64 8), (2, .int .i64 1)] = some (wyV wA) := by kernel_rfl
theorem wB_built : Try.prog.built 35 [(0, .agg (adrV false (tenB 1 0 0))), (1, .int .i64 16), (2, .int .i64 2)] = some (wyV wB) := by kernel_rfl
set_option maxRecDepth 100000 in
set_option maxHeartbeats 4000000 in
theorem alive_any {Tb : World → (Nat → Prop) → Nat → List Wy → Prop} (F : FrR Tb) : Alive := by
  intro w
  have hzv := zeroWy
  have NC := Lib.hid (fun (w' : World) => F.new w')
  have KT := Lib.hid F.keep
  have LT := Lib.hid F.lt
  have he := fun (a : Addr) (w' : World) => eql_ptr_nil (P := Try.prog) w' a Try.underlying26
  obtain ⟨D0, hD0⟩ : ∃ D, D = adrV false (tenB 0 0 0) := ⟨_, rfl⟩
  obtain ⟨D1, hD1⟩ : ∃ D, D = adrV false (tenB 1 0 0) := ⟨_, rfl⟩
  obtain ⟨D2, hD2⟩ : ∃ D, D = adrV false (tenB 1 2 3) := ⟨_, rfl⟩
  obtain ⟨D3, hD3⟩ : ∃ D, D = adrV false (tenB 2 0 0) := ⟨_, rfl⟩
  obtain ⟨CA, hCA⟩ : ∃ D, D = wyV wA := ⟨_, rfl⟩
  obtain ⟨CB, hCB⟩ : ∃ D, D = wyV wB := ⟨_, rfl⟩
  obtain ⟨ZS, hZS⟩ : ∃ D, D = wyV zWy := ⟨_, rfl⟩
  rw [← hZS] at hzv
  have T0 := Lib.hid (fun w' => hD0 ▸ ten_any 0 0 0 w')
  have T1 := Lib.hid (fun w' => hD1 ▸ ten_any 1 0 0 w')
  have T2 := Lib.hid (fun w' => hD2 ▸ ten_any 1 2 3 w')
  have T3 := Lib.hid (fun w' => hD3 ▸ ten_any 2 0 0 w')
  have BA := Lib.hid (show Try.prog.built 35 [(0, .agg D0), (1, .int .i64 8), (2, .int .i64 1)] = some CA by rw [hD0, hCA]; exact wA_built)
  have BB := Lib.hid (show Try.prog.built 35 [(0, .agg D1), (1, .int .i64 16), (2, .int .i64 2)] = some CB by rw [hD1, hCB]; exact wB_built)
  have AA := Lib.hid (fun (w' : World) (S : Nat → Prop) (t : Nat) (hT : Tb w' S t []) => (show Calls Try.prog 8 #[.pointer (some ⟨t, 0, none⟩), .agg CA] w' (AddR Tb w' S t 0 [wA]) by
    have h := F.add w' S t [] wA hT Inv.nil wA_ok
    rw [addE_A, addS_A, ← hCA] at h; exact h))
  have AB := Lib.hid (fun (w' : World) (S : Nat → Prop) (t : Nat) (hT : Tb w' S t [wA]) => (show Calls Try.prog 8 #[.pointer (some ⟨t, 0, none⟩), .agg CB] w' (AddR Tb w' S t 0 [wA, wB]) by
    have h := F.add w' S t [wA] wB hT inv_A wB_ok
    rw [addE_B, addS_B, ← hCB] at h; exact h))
  have FB := Lib.hid (fun (w' : World) (S : Nat → Prop) (t : Nat) (hT : Tb w' S t [wA, wB]) => (show Calls Try.prog 10 #[.pointer (some ⟨t, 0, none⟩), .agg D2] w' (Ret w' (.tuple #[.agg CB, .int .i64 0])) by
    rw [hD2, hCB]
    refine (F.find w' S t _ false (tenB 1 2 3) hT inv_B rfl (ten_byte (by unfold Byte; decide) (by unfold Byte; decide) (by unfold Byte; decide))).mono ?_
    rintro e w2 ⟨v, r, rfl, hf, hb⟩
    obtain ⟨rfl, rfl⟩ := found_B hf
    exact ⟨rfl, hb⟩))
  have FA := Lib.hid (fun (w' : World) (S : Nat → Prop) (t : Nat) (hT : Tb w' S t [wA, wB]) => (show Calls Try.prog 10 #[.pointer (some ⟨t, 0, none⟩), .agg D3] w' (Ret w' (.tuple #[.agg CA, .int .i64 0])) by
    rw [hD3, hCA]
    refine (F.find w' S t _ false (tenB 2 0 0) hT inv_B rfl (ten_byte (by unfold Byte; decide) (by unfold Byte; decide) (by unfold Byte; decide))).mono ?_
    rintro e w2 ⟨v, r, rfl, hf, hb⟩
    obtain ⟨rfl, rfl⟩ := found_A hf
    exact ⟨rfl, hb⟩))
  have IA := Lib.hid (show (Try.prog.info? 35).map (·.size) = some CA.size by rw [hCA]; exact wyV_info wA_ok)
  have IB := Lib.hid (show (Try.prog.info? 35).map (·.size) = some CB.size by rw [hCB]; exact wyV_info wB_ok)
  have ZA := Lib.hid (show ZS.size = CA.size by rw [hCA, hZS]; exact wy_zsize zWy_ok wA_ok)
  have ZB := Lib.hid (show ZS.size = CB.size by rw [hCB, hZS]; exact wy_zsize zWy_ok wB_ok)
  have OA := Lib.hid (show CA.all (·.oneCell') = true by rw [hCA]; exact wy_ones _)
  have OB := Lib.hid (show CB.all (·.oneCell') = true by rw [hCB]; exact wy_ones _)
  have PA := Lib.hid (fun (w' : World) (g : Nat) (R : w'.heap[g]? = some (.cells CA 35 (0, 0))) => (show w'.cell? ⟨g, 18, none⟩ = some (.int .i64 1) by rw [hCA] at R; exact wyV_row R (wy_port wA_ok)))
  have PB := Lib.hid (fun (w' : World) (g : Nat) (R : w'.heap[g]? = some (.cells CB 35 (0, 0))) => (show w'.cell? ⟨g, 18, none⟩ = some (.int .i64 2) by rw [hCB] at R; exact wyV_row R (wy_port wB_ok)))
  clear F hD0 hD1 hD2 hD3 hCA hCB hZS
  go_enter Try.func14, Try.ntmps14
  go_upto_region 2 with (first
    | go_skip
    | (go_at_call 6; (refine (NC.out _).mono ?_); rintro e w2 ⟨t, S0, rfl, hT, hS, hb⟩
       have HB := Lib.hid hb
       have TT := Lib.hid hT
       have SS := Lib.hid hS
       have he1 := he ⟨t, 0, none⟩ w2
       clear hb hT hS))
  clear he
  go_upto_region 4 with (first
    | go_skip
    | (go_at_call 26; (first | with_reducible refine (T0.out _).mono ?_ | with_reducible refine (T1.out _).mono ?_); rintro e w9 ⟨rfl, hb⟩
       have TT := Lib.hid (KT.out _ w9 _ _ _ TT.out hb.size (fun k hk => hb.block k (LT.out _ _ _ _ TT.out k hk)))
       have HB := Lib.hid (HB.out.trans (hb.mono HB.out.size))
       clear hb)
    | (with_reducible refine at_build 35 ?_; refine wpList_runG (by kernel_rfl) _ (built_runR (T := 35) (L := [(0, .agg D0), (1, .int .i64 8), (2, .int .i64 1)]) rfl rfl BA.out) ?_)
    | (with_reducible refine at_build 35 ?_; refine wpList_runG (by kernel_rfl) _ (built_runR (T := 35) (L := [(0, .agg D1), (1, .int .i64 16), (2, .int .i64 2)]) rfl rfl BB.out) ?_)
    | (go_at_call 8; (first | with_reducible refine (AA.out _ _ _ TT.out).mono ?_ | with_reducible refine (AB.out _ _ _ TT.out).mono ?_); rintro e w9 ⟨S9, rfl, hT, hS, hF⟩
       have TT := Lib.hid hT
       have hb := hF.to_below SS.out HB.out.size
       have SS := Lib.hid (fun k hk => (hS k hk).elim (SS.out k) (fun h => Nat.le_trans HB.out.size h))
       have HB := Lib.hid (HB.out.trans hb)
       clear hT hS hF hb))
  clear AA AB BA BB he1
  go_upto_region 5 with (first
    | go_skip
    | (go_at_call 26; (with_reducible refine (T2.out _).mono ?_); rintro e w9 ⟨rfl, hb⟩
       have TT := Lib.hid (KT.out _ w9 _ _ _ TT.out hb.size (fun k hk => hb.block k (LT.out _ _ _ _ TT.out k hk)))
       have HB := Lib.hid (HB.out.trans (hb.mono HB.out.size))
       clear hb)
    | (go_at_call 10; (with_reducible refine (FB.out _ _ _ TT.out).mono ?_); rintro e w10 ⟨rfl, hb⟩
       have TT := Lib.hid (KT.out _ w10 _ _ _ TT.out hb.size (fun k hk => hb.block k (LT.out _ _ _ _ TT.out k hk)))
       have HB := Lib.hid (HB.out.trans (hb.mono HB.out.size))
       clear hb)
    | (refine wpList_store_row rfl 35 (.tmp 2) (.tmp 27) rfl w10.heap.size CB rfl rfl _ _ (heap_alloc_new _ _) IB.out ZB.out OB.out ?_; rw [World.setRow_alloc_new]))
  have R2 := Lib.hid (heap_alloc_new w10 (.cells CB 35))
  have B2 := Lib.hid (alloc_below w10 (.cells CB 35))
  have TT := Lib.hid (KT.out _ _ _ _ _ TT.out B2.out.size (fun k hk => B2.out.block k (LT.out _ _ _ _ TT.out k hk)))
  have HB := Lib.hid (HB.out.trans (B2.out.mono HB.out.size))
  clear B2 FB T2
  generalize w10.alloc (.cells CB 35) = w11 at *
  generalize w10.heap.size = g2 at *
  go_upto_region 6 with (first
    | go_skip
    | (go_at_call 26; (with_reducible refine (T3.out _).mono ?_); rintro e w12 ⟨rfl, hb⟩
       have TT := Lib.hid (KT.out _ w12 _ _ _ TT.out hb.size (fun k hk => hb.block k (LT.out _ _ _ _ TT.out k hk)))
       have R2 := Lib.hid ((hb.block _ (lt_of_row R2.out)).trans R2.out)
       have HB := Lib.hid (HB.out.trans (hb.mono HB.out.size))
       clear hb)
    | (go_at_call 10; (with_reducible refine (FA.out _ _ _ TT.out).mono ?_); rintro e w13 ⟨rfl, hb⟩
       have R2 := Lib.hid ((hb.block _ (lt_of_row R2.out)).trans R2.out)
       have HB := Lib.hid (HB.out.trans (hb.mono HB.out.size))
       clear hb)
    | (refine wpList_store_row rfl 35 (.tmp 4) (.tmp 33) rfl w13.heap.size CA rfl rfl _ _ (heap_alloc_new _ _) IA.out ZA.out OA.out ?_; rw [World.setRow_alloc_new]))
  have R3 := heap_alloc_new w13 (.cells CA 35)
  have B3 := Lib.hid (alloc_below w13 (.cells CA 35))
  have c2 := PB.out _ _ ((B3.out.block _ (lt_of_row R2.out)).trans R2.out)
  have c3 := PA.out _ _ R3
  have HB := Lib.hid (HB.out.trans (B3.out.mono HB.out.size))
  clear R3 B3 hzv
  generalize w13.alloc (.cells CA 35) = w14 at *
  generalize w13.heap.size = g3 at *
  go_wp2_with go_skip
  go_ret
  exact ⟨rfl, HB.out⟩
end Go.Proofs.Ytjdenhkicikfkaa.rtC

/-
  A table that New did not give, as a value.
-/
namespace Go.Proofs.Ytjdenhkicikfkaa.rtC
open Go.ChangeShapes Go.WideShapes Go.ChangeAt Go.RowKit
/-- the zero value of the program's Table -/
def zTab : Array Value := #[.pointer none, .map none]
theorem zTab_built : Try.prog.built 50 [] = some zTab := by kernel_rfl
end Go.Proofs.Ytjdenhkicikfkaa.rtC

/-
  The walk of RouteNobody.
-/
namespace Go.Proofs.Ytjdenhkicikfkaa.rtC
open Go.ChangeShapes Go.WideShapes Go.ChangeAt Go.RowKit
open Go.Proofs.Ytjdenhkicikfkaa.memC Go.Proofs.Ytjdenhkicikfkaa.genC Go.Proofs.Ytjdenhkicikfkaa.butC Go.Proofs.Ytjdenhkicikfkaa.freeC Go.Proofs.Ytjdenhkicikfkaa.adC
set_option linter.unusedVariables false
set_option linter.constructorNameAsVariable false
/-- what the program's functions do with tables that nobody made -/
structure Nob (NM : World → Value → Prop) : Prop where
  below : ∀ (w w' : World) (pv : Value), NM w pv → Below w.heap.size w w' → NM w' pv
  nil : ∀ w, NM w (.pointer none)
  zero : ∀ w t, w.heap[t]? = some (.cells zTab 50 (0, 0)) → NM w (.pointer (some ⟨t, 0, none⟩))
  add : ∀ (w : World) (pv : Value) (y : Wy), NM w pv → y.Ok → Calls Try.prog 8 #[pv, .agg (wyV y)] w (Ret w (.int .i64 2))
  drop : ∀ (w : World) (pv : Value) (y : Wy), NM w pv → y.Ok → Calls Try.prog 15 #[pv, .agg (adrV y.s y.a), .int .i64 y.len] w (Ret w (.int .i64 2))
  find : ∀ (w : World) (pv : Value) (s : Bool) (a : List Int), NM w pv → a.length = 16 → (∀ x ∈ a, Byte x) → Calls Try.prog 10 #[pv, .agg (adrV s a)] w (Ret w (.tuple #[.agg (wyV zWy), .int .i64 2]))
  all : ∀ (w : World) (pv : Value), NM w pv → Calls Try.prog 11 #[pv] w fun e w' => ∃ A c, e = .returned (.slice A 0 c) ∧ Below w.heap.size w w'
set_option maxRecDepth 100000 in
set_option maxHeartbeats 8000000 in
theorem nobody_walk {NM : World → Value → Prop} (N : Nob NM) (hal : Alive) (r : Sr) (w : World) (hr : r.Ok) :
    Calls Try.prog 5 #[.agg r.cells.toArray] w (Ret w (.bool true)) := by
  obtain ⟨g1, hg1⟩ : ∃ g, g = w.heap.size := ⟨_, rfl⟩
  obtain ⟨W, hW⟩ : ∃ W, W = w.alloc (.cells r.cells.toArray 32) := ⟨_, rfl⟩
  have HB := Lib.hid (show Below w.heap.size w W by rw [hW]; exact alloc_below _ _)
  have R1 := Lib.hid (show W.heap[g1]? = some (.cells r.cells.toArray 32 (0, 0)) by rw [hW, hg1]; exact heap_alloc_new _ _)
  have AL := Lib.hid hal
  have cellsR := fun (w' : World) (h : Below W.heap.size W w') (k : Nat) (v : Value) (hv : r.cells[k]? = some v) => (show w'.cell? ⟨g1, k, none⟩ = some v from (h.cell (p := ⟨g1, k, none⟩) (lt_of_row R1.out)).trans (by rw [cell_of_row W g1 k _ _ (0, 0) R1.out, List.getElem?_toArray]; exact hv))
  have CW := Lib.hid (fun (w' : World) (h : Below W.heap.size W w') => (show ∀ j v, (wyL r.y)[j]? = some v → w'.cell? ⟨g1, 1 + j, none⟩ = some v from fun j v hv => cellsR w' h _ v (Sr.way hr j v hv)))
  have CP := Lib.hid (fun (w' : World) (h : Below W.heap.size W w') => (show ∀ j v, (adrK r.y.s r.y.a)[j]? = some v → w'.cell? ⟨g1, 1 + j, none⟩ = some v from fun j v hv => cellsR w' h _ v (Sr.way hr j v (by have := wy_src hr.y j v hv; rwa [Nat.zero_add] at this))))
  have CL := Lib.hid (fun (w' : World) (h : Below W.heap.size W w') => (show w'.cell? ⟨g1, 18, none⟩ = some (.int .i64 r.y.len) from cellsR w' h _ _ (Sr.way hr 17 _ (wy_len hr.y))))
  have CA := Lib.hid (fun (w' : World) (h : Below W.heap.size W w') => (show ∀ j v, (adrK r.s r.a)[j]? = some v → w'.cell? ⟨g1, 38 + j, none⟩ = some v from fun j v hv => cellsR w' h _ v (Sr.at_ hr j v hv)))
  have IW := Lib.hid (rwyL_info hr.y)
  have IP := Lib.hid (adrK_info (s := r.y.s) hr.y.la)
  have IA := Lib.hid (adrK_info (s := r.s) hr.la)
  have TH := Lib.hid (fun w' => (show Calls Try.prog 9 #[.agg (wyL r.y).toArray] w' (Ret w' (.agg (wyV r.y))) from theirs_any r.y w' hr.y))
  have AD := Lib.hid (fun w' pv (h : NM w' pv) => N.add w' pv r.y h hr.y)
  have DR := Lib.hid (fun w' pv (h : NM w' pv) => (show Calls Try.prog 15 #[pv, .agg (adrK r.y.s r.y.a).toArray, .int .i64 r.y.len] w' (Ret w' (.int .i64 2)) from N.drop w' pv r.y h hr.y))
  have FI := Lib.hid (fun w' pv (h : NM w' pv) => (show Calls Try.prog 10 #[pv, .agg (adrK r.s r.a).toArray] w' (Ret w' (.tuple #[.agg (wyV zWy), .int .i64 2])) from N.find w' pv r.s r.a h hr.la hr.ya))
  have NA := Lib.hid N.all
  have NB := Lib.hid N.below
  have NZ := Lib.hid N.zero
  have NN := Lib.hid N.nil
  have EZ := Lib.hid (fun w' => (show (Op.equalIn 10000 35 (.agg (wyV zWy)) (.agg (wyV zWy))).run Try.prog w' = .ok true w' by
    have h := eqW_run zWy_ok zWy_ok w'
    rwa [eqW_iff.2 rfl] at h))
  have ZI := Lib.hid (wyV_info zWy_ok)
  have ZO := Lib.hid (wy_ones zWy)
  have ZB := Lib.hid built_zWy
  obtain ⟨CZ, hCZ⟩ : ∃ C, C = wyV zWy := ⟨_, rfl⟩
  have hzv := zeroWy
  rw [← hCZ] at FI EZ ZI ZO ZB hzv
  have HZV := Lib.hid hzv
  obtain ⟨CT, hCT⟩ : ∃ C, C = zTab := ⟨_, rfl⟩
  have TB := Lib.hid zTab_built
  rw [← hCT] at TB NZ
  clear cellsR N hal hCZ hzv hCT
  go_enter Try.func5, Try.ntmps5
  go_upto_region 1 with fail
  rw [← hW]
  rw [← hg1]
  clear hW hg1 hr
  generalize r.cells.toArray = C at *
  generalize wyL r.y = KW at *
  generalize adrK r.y.s r.y.a = KP at *
  generalize adrK r.s r.a = KA at *
  generalize wyV r.y = VW at *
  generalize r.y.len = ln at *
  obtain ⟨W3, hW3⟩ : ∃ W3, W3 = W.alloc (.cells CT 50) := ⟨_, rfl⟩
  obtain ⟨W4, hW4⟩ : ∃ W4, W4 = W3.alloc (.cells #[.pointer none, .pointer (some ⟨W.heap.size, 0, none⟩)] 26) := ⟨_, rfl⟩
  have RT := Lib.hid (show W3.heap[W.heap.size]? = some (.cells CT 50 (0, 0)) by rw [hW3]; exact heap_alloc_new _ _)
  have RS := Lib.hid (show W4.heap[W3.heap.size]? = some (.cells #[.pointer none, .pointer (some ⟨W.heap.size, 0, none⟩)] 26 (0, 0)) by rw [hW4]; exact heap_alloc_new _ _)
  have B3 := Lib.hid (show Below W.heap.size W W3 by rw [hW3]; exact alloc_below _ _)
  have B4 := Lib.hid (show Below W3.heap.size W3 W4 by rw [hW4]; exact alloc_below _ _)
  have N4 := Lib.hid (show ∀ k, k < 2 → ∃ pv, W4.cell? ⟨W3.heap.size, k, none⟩ = some pv ∧ NM W4 pv from fun k hk => by
    rcases Nat.lt_succ_iff_lt_or_eq.1 hk with hk | rfl
    · obtain rfl : k = 0 := by omega
      exact ⟨_, cell_of_row W4 _ 0 _ _ (0, 0) RS.out, NN.out _⟩
    · exact ⟨_, cell_of_row W4 _ 1 _ _ (0, 0) RS.out, NZ.out _ _ ((B4.out.block _ (lt_of_row RT.out)).trans RT.out)⟩)
  have HW4 := Lib.hid (show Below W.heap.size W W4 from B3.out.trans (B4.out.mono B3.out.size))
  obtain ⟨gs, hgs⟩ : ∃ g, g = W.heap.size + 1 := ⟨_, rfl⟩
  have hg3 : W3.heap.size = gs := by rw [hW3, hgs]; simp
  rw [hg3] at N4
  have GSL := Lib.hid (show gs < W4.heap.size by rw [← hg3]; exact lt_of_row RS.out)
  have HS3 := Lib.hid hW3
  have HS4 := Lib.hid hW4
  clear hW3 hW4 RT RS B3 B4 hg3
  go_upto_region 2 with (first
    | (with_reducible refine at_build 50 ?_; refine adC.wpList_zero rfl 50 rfl CT TB.out ?_))
  try rw [← HS3.out]
  try rw [← hgs]
  try rw [← HS4.out]
  clear hgs HS3 HS4 TB NZ NN
  go_loopw [11] (fun u wr => ∃ k : Nat, u = .int .i64 k ∧ k ≤ 2 ∧ Below W4.heap.size W4 wr) (fun u _ => 10 - (intOf u).toNat)
  case atStart => exact ⟨0, rfl, by decide, Below.refl _ _⟩
  case round =>
    obtain ⟨k, rfl, hk, hb⟩ := hrel
    have BW := Lib.hid hb
    have BWW := Lib.hid (show Below W.heap.size W wr from HW4.out.trans (hb.mono HW4.out.size))
    by_cases hk2 : k < 2
    rotate_left
    · have q : ¬ (k : Int) < 2 := by omega
      clear hb hk hk2
      go_wp2_with (first
        | (go_at_call 14; refine (AL.out _).mono ?_; rintro e w9 ⟨rfl, hb⟩; have HB9 := Lib.hid hb; clear hb))
      go_ret
      have b2 := HB.out.trans (BWW.out.mono HB.out.size)
      exact ⟨rfl, b2.trans (HB9.out.mono b2.size)⟩
    · have q : (k : Int) < 2 := by omega
      have w1 : IntKind.i64.wrap ((k : Int) + 1) = (k : Int) + 1 := IntWalk.i64_in _ (by omega)
      obtain ⟨pv, hcv, hnm⟩ := N4.out k hk2
      have cv : wr.cell? ⟨gs, k, none⟩ = some pv := (hb.cell (p := ⟨gs, k, none⟩) GSL.out).trans hcv
      have NMr := Lib.hid (NB.out _ _ _ hnm hb)
      have HK := Lib.hid hk2
      have hzv := HZV.out
      have ca := Lib.hid (CA.out wr BWW.out)
      clear hb hk hk2 hcv hnm
      go_upto_region 5 with (first
        | (refine pkC.wpList_load_partG (by kernel_rfl) 25 (.tmp 17) rfl g1 38 (by kernel_rfl) KA _ ca.out Try.underlying25 rfl IA.out ?_)
        | (go_at_call 10; (with_reducible refine (FI.out _ _ NMr.out).mono ?_); rintro e w5 ⟨rfl, hb⟩; have B5 := Lib.hid hb; clear hb)
        | (refine wpList_store_row rfl 35 (.tmp 5) (.tmp 20) rfl w5.heap.size CZ rfl rfl _ _ (heap_alloc_new _ _) ZI.out rfl ZO.out ?_; rw [World.setRow_alloc_new]))
      obtain ⟨g6, hg6⟩ : ∃ g, g = w5.heap.size := ⟨_, rfl⟩
      obtain ⟨W6, hW6⟩ : ∃ W6, W6 = w5.alloc (.cells CZ 35) := ⟨_, rfl⟩
      have R6 := Lib.hid (show W6.heap[g6]? = some (.cells CZ 35 (0, 0)) by rw [hW6, hg6]; exact heap_alloc_new _ _)
      have B6 := Lib.hid (show Below wr.heap.size wr W6 by rw [hW6]; exact B5.out.trans ((alloc_below _ _).mono B5.out.size))
      rw [← hW6, ← hg6]
      clear hW6 hg6 hzv cv
      have BB := Lib.hid (Below.refl W6.heap.size W6)
      have K6 := Lib.hid (fun (w' : World) (h : Below W6.heap.size W6 w') => (show w'.heap[g6]? = some (.cells CZ 35 (0, 0)) from (h.block _ (lt_of_row R6.out)).trans R6.out))
      have NM6 := Lib.hid (NB.out _ _ _ NMr.out B6.out)
      have BW6 := Lib.hid (show Below W.heap.size W W6 from BWW.out.trans (B6.out.mono BWW.out.size))
      have CW6 := Lib.hid (CW.out W6 (BWW.out.trans (B6.out.mono BWW.out.size)))
      go_wp2_with (first
        | go_skip
        | (with_reducible refine atC.at_load 30 23 ?_; refine pkC.wpList_load_partG (by kernel_rfl) 30 (.tmp 23) rfl g1 1 (by kernel_rfl) KW _ CW6.out Try.underlying30 rfl IW.out ?_)
        | (go_at_call 9; (with_reducible refine (TH.out _).mono ?_); rintro e w7 ⟨rfl, hb⟩
           have BB := Lib.hid (BB.out.trans (hb.mono BB.out.size))
           clear hb)
        | (go_at_call 8; (with_reducible refine (AD.out _ _ (NB.out _ _ _ NM6.out BB.out)).mono ?_); rintro e w8 ⟨rfl, hb⟩
           have BB := Lib.hid (BB.out.trans (hb.mono BB.out.size))
           have cl := CL.out w8 (BW6.out.trans (BB.out.mono BW6.out.size))
           have CP8 := Lib.hid (CP.out w8 (BW6.out.trans (BB.out.mono BW6.out.size)))
           clear hb)
        | (with_reducible refine atC.at_load 25 31 ?_; refine pkC.wpList_load_partG (by kernel_rfl) 25 (.tmp 31) (by kernel_rfl) g1 1 (by kernel_rfl) KP _ CP8.out Try.underlying25 rfl IP.out ?_)
        | (go_at_call 15; (with_reducible refine (DR.out _ _ (NB.out _ _ _ NM6.out BB.out)).mono ?_); rintro e w9 ⟨rfl, hb⟩
           have BB := Lib.hid (BB.out.trans (hb.mono BB.out.size))
           have R9 := Lib.hid (K6.out _ BB.out)
           clear hb)
        | (with_reducible refine atC.at_load 35 5 ?_; refine wpList_load_rowG (by kernel_rfl) 35 (.tmp 5) rfl g6 (by kernel_rfl) _ _ _ _ R9.out Try.underlying35 rfl ZI.out ?_)
        | (with_reducible refine at_build 35 ?_; refine wpList_runG (by kernel_rfl) _ (adC.built_run (T := 35) (C := CZ) rfl ZB.out) ?_)
        | (with_reducible refine atC.at_bin .neq 35 ?_; refine wpList_runG (by kernel_rfl) _ (ne_run (T := 35) (s := 40) (x := 41) rfl (by kernel_rfl) (by kernel_rfl) (EZ.out _) wy_guard) ?_)
        | (go_at_call 11; (with_reducible refine (NA.out _ _ (NB.out _ _ _ NM6.out BB.out)).mono ?_); rintro e w10 ⟨A9, c9, rfl, hb⟩
           have BB := Lib.hid (BB.out.trans (hb.mono BB.out.size))
           clear hb))
      go_roundw
      case rel => exact ⟨k + 1, by simp, by have := HK.out; omega, BW.out.trans ((B6.out.trans (BB.out.mono B6.out.size)).mono BW.out.size)⟩
      case measure => have := HK.out; simp [intOf]; omega
end Go.Proofs.Ytjdenhkicikfkaa.rtC

/-
  The walk of RouteLongest.
-/
namespace Go.Proofs.Ytjdenhkicikfkaa.rtC
open Go.ChangeShapes Go.WideShapes Go.ChangeAt Go.RowKit
open Go.Proofs.Ytjdenhkicikfkaa.memC Go.Proofs.Ytjdenhkicikfkaa.genC Go.Proofs.Ytjdenhkicikfkaa.butC Go.Proofs.Ytjdenhkicikfkaa.freeC Go.Proofs.Ytjdenhkicikfkaa.adC
set_option linter.unusedVariables false
set_option linter.constructorNameAsVariable false
theorem found_ok {st : List Wy} (h : Inv st) {s : Bool} {a : List Int} {v : Wy} {r : Int} (hf : foundR st s a v r) : v.Ok := by
  rcases hf with ⟨-, rfl, -⟩ | ⟨-, -, rfl, -⟩ | ⟨-, h2, -⟩
  · exact zWy_ok
  · exact zWy_ok
  · exact h.ok v h2
/-- a way that holds the address is no longer than what was found -/
theorem found_len {st : List Wy} {s : Bool} {a : List Int} {v x : Wy} {r : Int} (hf : foundR st s a v r) (hm : mayL s a = true) (hx : x ∈ st) (hl : liesW s a x = true) : r = 0 ∧ x.len ≤ v.len := by
  rcases hf with ⟨h1, -⟩ | ⟨-, h2, -⟩ | ⟨-, -, -, h4, h5⟩
  · rw [hm] at h1; cases h1
  · rw [h2 x hx] at hl; cases hl
  · exact ⟨h5, h4 x hx hl⟩
theorem found_two {st : List Wy} {s : Bool} {a : List Int} {v : Wy} {r : Int} (hf : foundR st s a v r) : (r = 0 ∧ liesW s a v = true) ∨ (r ≠ 0 ∧ v = zWy) := by
  rcases hf with ⟨-, h2, h3⟩ | ⟨-, -, h2, h3⟩ | ⟨-, -, h3, -, h5⟩
  · exact .inr ⟨by omega, h2⟩
  · exact .inr ⟨by omega, h2⟩
  · exact .inl ⟨h5, h3⟩
set_option maxRecDepth 100000 in
set_option maxHeartbeats 16000000 in
theorem longest_walk {Tb : World → (Nat → Prop) → Nat → List Wy → Prop} (F : FrR Tb) (hal : Alive) (A : Option Addr) (n c : Nat) (ss : List Sr) (s : Bool) (a : List Int) (w : World) (hk : SksR w w.heap.size A n ss) (hnc : n ≤ c) (ha : a.length = 16) (ya : ∀ x ∈ a, Byte x) :
    Calls Try.prog 3 #[.slice A n c, .agg (adrV s a)] w (Ret w (.bool true)) := by
  obtain ⟨g3, hg3⟩ : ∃ g, g = w.heap.size := ⟨_, rfl⟩
  obtain ⟨W, hW⟩ : ∃ W, W = w.alloc (.cells (adrV s a) 25) := ⟨_, rfl⟩
  have HB := Lib.hid (show Below w.heap.size w W by rw [hW]; exact alloc_below _ _)
  have R3 := Lib.hid (show W.heap[g3]? = some (.cells (adrV s a) 25 (0, 0)) by rw [hW, hg3]; exact heap_alloc_new _ _)
  have IA := Lib.hid (show (Try.prog.info? 25).map (·.size) = some (adrV s a).size by rw [adrV_size ha]; exact addr_info)
  have AL := Lib.hid hal
  have NC := Lib.hid (fun (w' : World) => F.new w')
  have KT := Lib.hid F.keep
  have LT := Lib.hid F.lt
  have he := fun (a : Addr) (w' : World) => eql_ptr_nil (P := Try.prog) w' a Try.underlying26
  have HP := Lib.hid ((hk.upto (Nat.min_le_left n 200)).below HB.out HB.out.size)
  have SA := Lib.hid (fun w' => short_any A n c w' hnc)
  have HM := Lib.hid (show min n 200 ≤ 200 from Nat.min_le_right _ _)
  generalize ss.take (min n 200) = ts at *
  generalize min n 200 = m at *
  have ADD := Lib.hid (fun (w' : World) (S : Nat → Prop) (t : Nat) (i : Nat) (x : Sr) (hT : Tb w' S t (stOf ((ts.take i).map (·.y)))) (hx : ts[i]? = some x) => (show Calls Try.prog 8 #[.pointer (some ⟨t, 0, none⟩), .agg (wyV x.y)] w' (fun e w2 => ∃ r S', e = .returned (.int .i64 r) ∧ Tb w2 S' t (stOf ((ts.take (i + 1)).map (·.y))) ∧ (∀ k, S' k → S k ∨ w'.heap.size ≤ k) ∧ Fs S w' w2) by
    have hi : Inv (stOf ((ts.take i).map (·.y))) := stOf_inv fun y hy => by
      obtain ⟨z, hz, rfl⟩ := List.mem_map.1 hy
      exact (HP.out.ok z (List.mem_of_mem_take hz)).y
    refine (F.add w' S t _ x.y hT hi (HP.out.ok x (List.mem_of_getElem? hx)).y).mono ?_
    rintro e w2 ⟨S', h1, h2, h3, h4⟩
    rw [← stOf_snoc, show (ts.take i).map (·.y) ++ [x.y] = (ts.take (i + 1)).map (·.y) by rw [List.take_add_one, hx, List.map_append]; rfl] at h2
    exact ⟨_, S', h1, h2, h3, h4⟩))
  have INV := Lib.hid (show Inv (stOf (ts.map (·.y))) from stOf_inv fun y hy => by
    obtain ⟨z, hz, rfl⟩ := List.mem_map.1 hy
    exact (HP.out.ok z hz).y)
  have HTS := Lib.hid (show ts.take m = ts from List.take_of_length_le (by rw [HP.out.len]; exact Nat.le_refl _))
  have FND := Lib.hid (fun (w' : World) (S : Nat → Prop) (t : Nat) (hT : Tb w' S t (stOf (ts.map (·.y)))) => F.find w' S t _ s a hT INV.out ha ya)
  have ALC := Lib.hid (fun (w' : World) (S : Nat → Prop) (t : Nat) (hT : Tb w' S t (stOf (ts.map (·.y)))) => F.all w' S t _ hT INV.out)
  have MA := Lib.hid (fun w' => rmay_any s a w' ha)
  have LI := Lib.hid (fun (w' : World) (x : Wy) (hx : x.Ok) => (show Calls Try.prog 13 #[.agg (adrV s a), .agg (adrK x.s x.a).toArray, .int .i64 x.len] w' (Ret w' (.bool (liesW s a x))) from rlies_any s x.s a x.a x.len w' ha hx.la ya hx.ya))
  obtain ⟨CA, hCA⟩ : ∃ C, C = adrV s a := ⟨_, rfl⟩
  rw [← hCA] at R3 IA FND MA LI hW
  have HZ := Lib.hid zeroStep
  have HZW := Lib.hid zeroWy
  rw [← hCA]
  clear F hal hk hnc ha ya hCA
  go_enter Try.func3, Try.ntmps3
  go_upto_region 1 with fail
  rw [← hW]
  rw [← hg3]
  clear hW hg3
  go_upto_region 2 with (first
    | go_skip
    | (go_at_call 6; (refine (NC.out _).mono ?_); rintro e w2 ⟨t, S0, rfl, hT, hS, hb⟩
       have B2 := Lib.hid hb
       have T2 := Lib.hid hT
       have S2 := Lib.hid hS
       have he1 := he ⟨t, 0, none⟩ w2
       clear hb hT hS))
  clear he
  go_upto_region 5 with (first
    | (go_at_call 7; refine (SA.out _).mono ?_; rintro e w4 ⟨rfl, hw⟩; obtain rfl := hw.symm))
  clear he1
  go_loopw [18] (fun u wr => ∃ (i : Nat) (S : Nat → Prop), u = .int .i64 i ∧ i ≤ m ∧ Tb wr S t (stOf ((ts.take i).map (·.y))) ∧ (∀ k, S k → W.heap.size ≤ k) ∧ Below W.heap.size W wr) (fun u _ => 1000 - (intOf u).toNat)
  case atStart => exact ⟨0, S0, rfl, Nat.zero_le _, T2.out, S2.out, B2.out⟩
  case round =>
    obtain ⟨i, S, rfl, hi, hT, hS, hb⟩ := hrel
    have HBW := Lib.hid hb
    have HT := Lib.hid hT
    have HS := Lib.hid hS
    by_cases hlt : i < m
    · have q6 : (i : Int) < (m : Int) := by omega
      have wi : IntKind.i64.wrap ((i : Int) + 1) = (i : Int) + 1 := IntWalk.i64_in _ (by have := HM.out; omega)
      obtain ⟨x, hx⟩ : ∃ x, ts[i]? = some x := ⟨_, List.getElem?_eq_getElem (by rw [HP.out.len]; exact hlt)⟩
      have ox := HP.out.ok x (List.mem_of_getElem? hx)
      obtain ⟨b1, o1, hA1, hb1, c1⟩ := HP.out.at_ (by omega)
      have C1 := Lib.hid (show ∀ q v, x.cells[q]? = some v → wr.cell? ⟨b1, o1 + i * 55 + q, none⟩ = some v from fun q v hv => (hb.cell (p := ⟨b1, o1 + i * 55 + q, none⟩) hb1).trans (c1 i x hx q v hv))
      have IS := Lib.hid (show (Try.prog.info? 32).map (·.size) = some x.cells.length by rw [Sr.cells_len ox]; exact step_info)
      have IS2 := Lib.hid (Sr.size ox)
      have ZSZ := Lib.hid (show zSr.cells.toArray.size = x.cells.toArray.size by rw [zSr_len, List.size_toArray, Sr.cells_len ox])
      have OS := Lib.hid (Sr.ones x)
      obtain ⟨W6, hW6⟩ : ∃ W6, W6 = wr.alloc (.cells x.cells.toArray 32) := ⟨_, rfl⟩
      obtain ⟨g8, hg8⟩ : ∃ g, g = wr.heap.size := ⟨_, rfl⟩
      have R8 := Lib.hid (show W6.heap[g8]? = some (.cells x.cells.toArray 32 (0, 0)) by rw [hW6, hg8]; exact heap_alloc_new _ _)
      have A6 := Lib.hid (show Below wr.heap.size wr W6 by rw [hW6]; exact alloc_below _ _)
      have TT := Lib.hid (KT.out wr W6 S t _ hT A6.out.size (fun k hk => A6.out.block k (LT.out _ _ _ _ hT k hk)))
      have BB := Lib.hid (show Below W.heap.size W W6 from hb.trans (A6.out.mono hb.size))
      have C6 := Lib.hid (show ∀ j v, (wyL x.y)[j]? = some v → W6.cell? ⟨g8, 1 + j, none⟩ = some v from fun j v hv => pkC.PkC.cell R8.out (by rw [List.getElem?_toArray]; exact Sr.way ox j v hv))
      have IY := Lib.hid (rwyL_info ox.y)
      have TH := Lib.hid (fun w' => (show Calls Try.prog 9 #[.agg (wyL x.y).toArray] w' (Ret w' (.agg (wyV x.y))) from theirs_any x.y w' ox.y))
      have AD := Lib.hid (fun w' (hT : Tb w' S t (stOf ((ts.take i).map (·.y)))) => ADD.out w' S t i x hT hx)
      have HI := Lib.hid hlt
      have hzs := HZ.out
      subst hA1
      generalize x.cells = XC at *
      generalize wyL x.y = YC at *
      clear hi hT hS hb hx ox hb1 c1 hlt
      go_upto_region 7 with (first
        | (refine pkC.wpList_load_partG (by kernel_rfl) 32 (.tmp 20) rfl b1 (o1 + i * 55) (by kernel_rfl) XC _ C1.out Try.underlying32 rfl IS.out ?_)
        | (refine wpList_store_row rfl 32 (.tmp 7) (.tmp 21) rfl wr.heap.size XC.toArray rfl rfl _ _ (heap_alloc_new _ _) IS2.out ZSZ.out OS.out ?_; rw [World.setRow_alloc_new]))
      rw [← hW6, ← hg8]
      clear hW6 hg8 hzs
      go_wp2_with (first
        | (refine pkC.wpList_load_partG (by kernel_rfl) 30 (.tmp 23) rfl g8 1 (by kernel_rfl) YC _ C6.out Try.underlying30 rfl IY.out ?_)
        | (go_at_call 9; (with_reducible refine (TH.out _).mono ?_); rintro e w7 ⟨rfl, hb⟩
           have TT := Lib.hid (KT.out _ w7 _ _ _ TT.out hb.size (fun k hk => hb.block k (LT.out _ _ _ _ TT.out k hk)))
           have BB := Lib.hid (BB.out.trans (hb.mono BB.out.size))
           clear hb)
        | (go_at_call 8; (with_reducible refine (AD.out _ TT.out).mono ?_); rintro e w8 ⟨r8, S8, rfl, hT, hS, hF⟩
           have TT := Lib.hid hT
           have hb := hF.to_below HS.out BB.out.size
           have S8 := Lib.hid (fun k hk => (hS k hk).elim (HS.out k) (fun h => Nat.le_trans BB.out.size h))
           have BB := Lib.hid (BB.out.trans hb)
           clear hT hS hF hb))
      go_roundw
      case rel => exact ⟨i + 1, _, by simp, HI.out, TT.out, S8.out, BB.out⟩
      case measure => have := HM.out; have := HI.out; simp [intOf]; omega
    have ei : i = m := by omega
    subst ei
    have q6 : ¬ (i : Int) < (i : Int) := by omega
    have TT := Lib.hid (show Tb wr S t (stOf (ts.map (·.y))) by have h := hT; rw [HTS.out] at h; exact h)
    have BB := Lib.hid hb
    have RA := Lib.hid (fun (w' : World) (h : Below W.heap.size W w') => (show w'.heap[g3]? = some (.cells CA 25 (0, 0)) from (h.block _ (lt_of_row R3.out)).trans R3.out))
    have R9 := Lib.hid (RA.out wr hb)
    clear hi hT hS hb hlt HT HBW ADD
    go_upto_region 9 with fail
    go_upto_region 10 with (first
      | (refine wpList_load_row rfl 25 (.tmp 3) rfl g3 rfl _ _ _ _ R9.out Try.underlying25 rfl IA.out ?_)
      | (go_at_call 10; (with_reducible refine (FND.out _ _ _ TT.out).mono ?_); rintro e w10 ⟨v, r, rfl, hf, hb⟩
         have HF := Lib.hid hf
         have OV := Lib.hid (found_ok INV.out hf)
         have VI := Lib.hid (wyV_info OV.out)
         have VZ := Lib.hid (wy_zsize zWy_ok OV.out)
         have VO := Lib.hid (wy_ones v)
         have TT := Lib.hid (KT.out _ w10 _ _ _ TT.out hb.size (fun k hk => hb.block k (LT.out _ _ _ _ TT.out k hk)))
         have BB := Lib.hid (BB.out.trans (hb.mono BB.out.size))
         have hzw := HZW.out
         clear hb hf)
      | (refine wpList_store_row rfl 35 (.tmp 8) (.tmp 32) rfl w10.heap.size (wyV v) rfl rfl _ _ (heap_alloc_new _ _) VI.out VZ.out VO.out ?_; rw [World.setRow_alloc_new]))
    have R8 := Lib.hid (heap_alloc_new w10 (.cells (wyV v) 35))
    have B2 := Lib.hid (alloc_below w10 (.cells (wyV v) 35))
    have TT := Lib.hid (KT.out _ _ _ _ _ TT.out B2.out.size (fun k hk => B2.out.block k (LT.out _ _ _ _ TT.out k hk)))
    have BB := Lib.hid (BB.out.trans (B2.out.mono BB.out.size))
    clear B2 R9 hzw
    generalize w10.alloc (.cells (wyV v) 35) = w11 at *
    generalize w10.heap.size = g8 at *
    go_upto_region 11 with (first
      | (go_at_call 11; (with_reducible refine (ALC.out _ _ _ TT.out).mono ?_); rintro e w12 ⟨A5, n5, c5, l, rfl, nc5, cm5, hp, -, hr, hb⟩
         have HPM := Lib.hid hp
         have HRW := Lib.hid hr
         have HC5 := Lib.hid (show n5 ≤ 9223372036854775807 by omega)
         have R8 := Lib.hid ((hb.block _ (lt_of_row R8.out)).trans R8.out)
         have BB := Lib.hid (BB.out.trans (hb.mono BB.out.size))
         clear hb hp hr nc5 cm5))
    clear TT
    have OVW := Lib.hid (wyL_info OV.out)
    have V17 := Lib.hid (fun (w' : World) (h : Below w12.heap.size w12 w') => (show w'.cell? ⟨g8, 17, none⟩ = some (.int .i64 v.len) from wyV_row ((h.block _ (lt_of_row R8.out)).trans R8.out) (wy_len OV.out)))
    have V0 := Lib.hid (fun (w' : World) (h : Below w12.heap.size w12 w') => (show ∀ q u, (adrK v.s v.a)[q]? = some u → w'.cell? ⟨g8, 0 + q, none⟩ = some u from fun q u hu => wyV_row ((h.block _ (lt_of_row R8.out)).trans R8.out) (wy_src OV.out q u hu)))
    have RV := Lib.hid (fun (w' : World) (h : Below w12.heap.size w12 w') => (show w'.heap[g8]? = some (.cells (wyV v) 35 (0, 0)) from (h.block _ (lt_of_row R8.out)).trans R8.out))
    have R3W := Lib.hid (fun (w' : World) (h : Below w12.heap.size w12 w') => RA.out w' (BB.out.trans (h.mono BB.out.size)))
    have OKL := Lib.hid (fun (j : Nat) (x : Wy) (hx : l[j]? = some x) => (show x ∈ stOf (ts.map (·.y)) from HPM.out.mem_iff.1 (List.mem_of_getElem? hx)))
    clear R8 RA VZ
    go_loopw [37] (fun u wr => ∃ j : Nat, u = .int .i64 j ∧ j ≤ n5 ∧ Below w12.heap.size w12 wr) (fun u _ => n5 + 1 - (intOf u).toNat)
    case atStart => exact ⟨0, rfl, Nat.zero_le _, Below.refl _ _⟩
    case round =>
      obtain ⟨j, rfl, hj, hb⟩ := hrel
      have HBW := Lib.hid hb
      by_cases hlt : j < n5
      rotate_left
      · have q7 : ¬ (j : Int) < (n5 : Int) := by omega
        have R9 := Lib.hid (R3W.out wr hb)
        have v0 := Lib.hid (V0.out wr hb)
        have v17 := V17.out wr hb
        have rv := Lib.hid (RV.out wr hb)
        have BL := Lib.hid (show Below W.heap.size W wr from BB.out.trans (hb.mono BB.out.size))
        have IV := Lib.hid (adrK_info (s := v.s) OV.out.la)
        have EZ := Lib.hid (fun w' (h : v = zWy) => (show (Op.equalIn 10000 35 (.agg (wyV v)) (.agg (wyV zWy))).run Try.prog w' = .ok true w' by
          have h9 := eqW_run OV.out zWy_ok w'
          rwa [eqW_iff.2 h] at h9))
        have ZB := Lib.hid built_zWy
        have LV := Lib.hid (fun w' => LI.out w' v OV.out)
        clear hj hlt hb
        rcases found_two HF.out with ⟨hr0, hl0⟩ | ⟨hr0, hv0⟩
        · subst hr0
          rw [hl0] at LV
          clear hl0 EZ
          generalize adrK v.s v.a = KV at *
          generalize v.len = ln at *
          go_wp2_with (first
            | go_skip
            | (with_reducible refine atC.at_load 25 3 ?_; refine wpList_load_rowG (by kernel_rfl) 25 (.tmp 3) rfl g3 (by kernel_rfl) _ _ _ _ R9.out Try.underlying25 rfl IA.out ?_)
            | (with_reducible refine atC.at_load 25 67 ?_; refine pkC.wpList_load_partG (by kernel_rfl) 25 (.tmp 67) (by kernel_rfl) g8 0 (by kernel_rfl) KV _ v0.out Try.underlying25 rfl IV.out ?_)
            | (go_at_call 13; (with_reducible refine (LV.out _).mono ?_); rintro e w15 ⟨rfl, hb⟩
               have BL := Lib.hid (BL.out.trans (hb.mono BL.out.size))
               clear hb)
            | (go_at_call 14; refine (AL.out _).mono ?_; rintro e w16 ⟨rfl, hb⟩
               have BE := Lib.hid (BL.out.trans (hb.mono BL.out.size))
               clear hb))
          go_ret
          exact ⟨rfl, HB.out.trans (BE.out.mono HB.out.size)⟩
        · have EZ := Lib.hid (fun w' => EZ.out w' hv0)
          have q8 : (r == 0) = false := by simpa using hr0
          have q9 : (r != 0) = true := by simpa using hr0
          clear hv0 LV v17
          go_wp2_with (first
            | go_skip
            | (with_reducible refine atC.at_load 35 8 ?_; refine wpList_load_rowG (by kernel_rfl) 35 (.tmp 8) rfl g8 (by kernel_rfl) _ _ _ _ rv.out Try.underlying35 rfl VI.out ?_)
            | (with_reducible refine at_build 35 ?_; refine wpList_runG (by kernel_rfl) _ (adC.built_run (T := 35) (C := wyV zWy) rfl ZB.out) ?_)
            | (with_reducible refine atC.at_bin .eql 35 ?_; refine wpList_runG (by kernel_rfl) _ (adC.eq_run (T := 35) (s := 77) (x := 78) rfl (by kernel_rfl) (by kernel_rfl) (EZ.out _) wy_guard) ?_)
            | (go_at_call 14; refine (AL.out _).mono ?_; rintro e w16 ⟨rfl, hb⟩
               have BE := Lib.hid (BL.out.trans (hb.mono BL.out.size))
               clear hb))
          go_ret
          exact ⟨rfl, HB.out.trans (BE.out.mono HB.out.size)⟩
      have q7 : (j : Int) < (n5 : Int) := by omega
      have wj : IntKind.i64.wrap ((j : Int) + 1) = (j : Int) + 1 := IntWalk.i64_in _ (by have := HC5.out; omega)
      obtain ⟨x, hx⟩ : ∃ x, l[j]? = some x := ⟨_, List.getElem?_eq_getElem (by rw [HRW.out.len]; exact hlt)⟩
      have mx := OKL.out j x hx
      have ox := INV.out.ok x mx
      obtain ⟨b5, o5, hA5, -, hb5, c5⟩ := HRW.out.at_ (by omega)
      have C1 := Lib.hid (show ∀ q u, (wyL x)[q]? = some u → wr.cell? ⟨b5, o5 + j * 37 + q, none⟩ = some u from fun q u hu => (hb.cell (p := ⟨b5, o5 + j * 37 + q, none⟩) hb5).trans (c5 j x hx q u hu))
      have IX := Lib.hid (wyL_info ox)
      have XI := Lib.hid (show (Try.prog.info? 35).map (·.size) = some (wyL x).toArray.size from wyV_info ox)
      have XZ := Lib.hid (show (wyV zWy).size = (wyL x).toArray.size from wy_zsize zWy_ok ox)
      have XO := Lib.hid (show (wyL x).toArray.all (·.oneCell') = true from wy_ones x)
      obtain ⟨W13, hW13⟩ : ∃ W6, W6 = wr.alloc (.cells (wyL x).toArray 35) := ⟨_, rfl⟩
      obtain ⟨g11, hg11⟩ : ∃ g, g = wr.heap.size := ⟨_, rfl⟩
      have R11 := Lib.hid (show W13.heap[g11]? = some (.cells (wyV x) 35 (0, 0)) by rw [hW13, hg11]; exact heap_alloc_new _ _)
      have A13 := Lib.hid (show Below wr.heap.size wr W13 by rw [hW13]; exact alloc_below _ _)
      have B13 := Lib.hid (show Below w12.heap.size w12 W13 from hb.trans (A13.out.mono hb.size))
      have HJ := Lib.hid hlt
      have X17 := Lib.hid (fun (w' : World) (h : Below W13.heap.size W13 w') => (show w'.cell? ⟨g11, 17, none⟩ = some (.int .i64 x.len) from wyV_row ((h.block _ (lt_of_row R11.out)).trans R11.out) (wy_len ox)))
      have X0 := Lib.hid (fun (w' : World) (h : Below W13.heap.size W13 w') => (show ∀ q u, (adrK x.s x.a)[q]? = some u → w'.cell? ⟨g11, 0 + q, none⟩ = some u from fun q u hu => wyV_row ((h.block _ (lt_of_row R11.out)).trans R11.out) (wy_src ox q u hu)))
      have IX0 := Lib.hid (adrK_info (s := x.s) ox.la)
      have LX := Lib.hid (fun w' => LI.out w' x ox)
      have MX := Lib.hid mx
      have hzw := HZW.out
      subst hA5
      clear hx mx ox hb hlt hj hb5 c5
      go_upto_region 13 with (first
        | (refine pkC.wpList_load_partG (by kernel_rfl) 35 (.tmp 39) rfl b5 (o5 + j * 37) (by kernel_rfl) (wyL x) _ C1.out Try.underlying35 rfl IX.out ?_)
        | (refine wpList_store_row rfl 35 (.tmp 11) (.tmp 40) rfl wr.heap.size (wyL x).toArray rfl rfl _ _ (heap_alloc_new _ _) XI.out XZ.out XO.out ?_; rw [World.setRow_alloc_new]))
      rw [← hW13, ← hg11]
      clear hW13 hg11 hzw
      have RR := Lib.hid (R3W.out W13 B13.out)
      cases hm : mayL s a
      · rw [hm] at MA
        clear hm LX
        go_wp2_with (first
          | go_skip
          | (refine wpList_load_row rfl 25 (.tmp 3) rfl g3 rfl _ _ _ _ RR.out Try.underlying25 rfl IA.out ?_)
          | (go_at_call 12; (with_reducible refine (MA.out _).mono ?_); rintro e w14 ⟨rfl, hb⟩
             have BM := Lib.hid hb
             have RR := Lib.hid (R3W.out w14 (B13.out.trans (hb.mono B13.out.size)))
             have x0 := Lib.hid (X0.out w14 hb)
             have x17 := X17.out w14 hb
             clear hb))
        go_roundw
        case rel => exact ⟨j + 1, by simp, HJ.out, B13.out.trans (BM.out.mono B13.out.size)⟩
        case measure => have := HJ.out; simp [intOf]; omega
      · rw [hm] at MA
        cases hl : liesW s a x
        · rw [hl] at LX
          clear hm hl
          generalize adrK x.s x.a = KX at *
          generalize x.len = lx at *
          go_wp2_with (first
            | go_skip
            | (with_reducible refine atC.at_load 25 3 ?_; refine wpList_load_rowG (by kernel_rfl) 25 (.tmp 3) rfl g3 (by kernel_rfl) _ _ _ _ RR.out Try.underlying25 rfl IA.out ?_)
            | (go_at_call 12; (with_reducible refine (MA.out _).mono ?_); rintro e w14 ⟨rfl, hb⟩
               have BM := Lib.hid hb
               have RR := Lib.hid (R3W.out w14 (B13.out.trans (hb.mono B13.out.size)))
               have x0 := Lib.hid (X0.out w14 hb)
               have x17 := X17.out w14 hb
               clear hb)
            | (with_reducible refine atC.at_load 25 45 ?_; refine pkC.wpList_load_partG (by kernel_rfl) 25 (.tmp 45) (by kernel_rfl) g11 0 (by kernel_rfl) KX _ x0.out Try.underlying25 rfl IX0.out ?_)
            | (go_at_call 13; (with_reducible refine (LX.out _).mono ?_); rintro e w15 ⟨rfl, hb⟩
               have BM := Lib.hid (BM.out.trans (hb.mono BM.out.size))
               have x17 := X17.out w15 BM.out
               have v17 := V17.out w15 (B13.out.trans (BM.out.mono B13.out.size))
               clear hb))
          go_roundw
          case rel => exact ⟨j + 1, by simp, HJ.out, B13.out.trans (BM.out.mono B13.out.size)⟩
          case measure => have := HJ.out; simp [intOf]; omega
        · obtain ⟨hr0, hle⟩ := found_len HF.out hm MX.out hl
          rw [hl] at LX
          subst hr0
          have q9 : ¬ x.len > v.len := by omega
          clear hm hl hle
          generalize adrK x.s x.a = KX at *
          generalize x.len = lx at *
          generalize v.len = lv at *
          go_wp2_with (first
            | go_skip
            | (with_reducible refine atC.at_load 25 3 ?_; refine wpList_load_rowG (by kernel_rfl) 25 (.tmp 3) rfl g3 (by kernel_rfl) _ _ _ _ RR.out Try.underlying25 rfl IA.out ?_)
            | (go_at_call 12; (with_reducible refine (MA.out _).mono ?_); rintro e w14 ⟨rfl, hb⟩
               have BM := Lib.hid hb
               have RR := Lib.hid (R3W.out w14 (B13.out.trans (hb.mono B13.out.size)))
               have x0 := Lib.hid (X0.out w14 hb)
               have x17 := X17.out w14 hb
               clear hb)
            | (with_reducible refine atC.at_load 25 45 ?_; refine pkC.wpList_load_partG (by kernel_rfl) 25 (.tmp 45) (by kernel_rfl) g11 0 (by kernel_rfl) KX _ x0.out Try.underlying25 rfl IX0.out ?_)
            | (go_at_call 13; (with_reducible refine (LX.out _).mono ?_); rintro e w15 ⟨rfl, hb⟩
               have BM := Lib.hid (BM.out.trans (hb.mono BM.out.size))
               have x17 := X17.out w15 BM.out
               have v17 := V17.out w15 (B13.out.trans (BM.out.mono B13.out.size))
               clear hb))
          go_roundw
          case rel => exact ⟨j + 1, by simp, HJ.out, B13.out.trans (BM.out.mono B13.out.size)⟩
          case measure => have := HJ.out; simp [intOf]; omega
end Go.Proofs.Ytjdenhkicikfkaa.rtC

/-
  A map of ways' prefixes: looked up, put.
-/
namespace Go.Proofs.Ytjdenhkicikfkaa.rtC
open Go.ChangeShapes Go.WideShapes Go.ChangeAt Go.RowKit
open Go.Proofs.Ytjdenhkicikfkaa.memC Go.Proofs.Ytjdenhkicikfkaa.genC Go.Proofs.Ytjdenhkicikfkaa.butC Go.Proofs.Ytjdenhkicikfkaa.freeC Go.Proofs.Ytjdenhkicikfkaa.adC
open Go.Maps (Keyed)
open Go.ChangeMaps Go.MapKept
set_option linter.unusedVariables false
/-- block b is a map of just these -/
def SetW (w : World) (b : Nat) (L : List Wy) : Prop := ∃ es clock, w.heap[b]? = some (.map es clock) ∧ es.toList.map (fun e => (e.key, e.val)) = L.map fun x => (Value.agg (wyV x), Value.bool true)
section
variable {w w' : World} {b : Nat} {L : List Wy} {m : Wy}
theorem SetW.lt (h : SetW w b L) : b < w.heap.size := by
  obtain ⟨es, clock, hb, -⟩ := h
  exact (Array.getElem?_eq_some_iff.1 hb).1
theorem SetW.same (h : SetW w b L) (he : w'.heap[b]? = w.heap[b]?) : SetW w' b L := by
  obtain ⟨es, clock, hb, h2⟩ := h
  exact ⟨es, clock, he.trans hb, h2⟩
theorem SetW.made (w : World) : SetW (w.alloc (.map #[] 0)) w.heap.size [] := ⟨#[], 0, heap_alloc_new _ _, rfl⟩
set_option maxRecDepth 100000 in
theorem SetW.find {es : Array MapEntry} {clock : Nat} (h : w.heap[b]? = some (.map es clock)) (h2 : es.toList.map (fun e => (e.key, e.val)) = L.map fun x => (Value.agg (wyV x), Value.bool true)) (hok : ∀ x ∈ L, x.Ok) (hm : m.Ok) :
    ((Instr.findKey 35 (.agg (wyV m)) es.toList).run Try.prog w = .ok none w ∧ ∀ x ∈ L, x ≠ m) ∨
    ∃ j, (Instr.findKey 35 (.agg (wyV m)) es.toList).run Try.prog w = .ok (some (j, .bool true)) w ∧ m ∈ L := by
  obtain ⟨l, hl⟩ := wy_key hm
  have hat : ∀ (j : Nat) (e : MapEntry), es.toList[j]? = some e → ∃ x, L[j]? = some x ∧ e.key = .agg (wyV x) ∧ e.val = .bool true := fun j e he => by
    have h3 := congrArg (fun l => l[j]?) h2
    simp only [List.getElem?_map, he, Option.map_some] at h3
    cases hx : L[j]? with
    | none => rw [hx] at h3; cases h3
    | some x =>
      rw [hx] at h3
      injection h3 with h3
      injection h3 with h4 h5
      exact ⟨x, rfl, h4, h5⟩
  have hks : ∀ e ∈ es.toList, ∃ l, keyOf Try.prog 35 e.key = some l := fun e he => by
    obtain ⟨j, hj⟩ := List.mem_iff_getElem?.1 he
    obtain ⟨x, hx, hk, -⟩ := hat j e hj
    rw [hk]
    exact wy_key (hok x (List.mem_of_getElem? hx))
  rcases wy_keyed.find w hl es.toList hks with ⟨h1, hn⟩ | ⟨j, e, h1, hj, hk⟩
  · refine .inl ⟨h1, fun x hx e => ?_⟩
    obtain ⟨j, hj⟩ := List.mem_iff_getElem?.1 hx
    have h3 := congrArg (fun l => l[j]?) h2
    simp only [List.getElem?_map, hj, Option.map_some] at h3
    cases he : es.toList[j]? with
    | none => rw [he] at h3; cases h3
    | some y =>
      rw [he] at h3
      injection h3 with h3
      injection h3 with h4 h5
      exact hn y (List.mem_of_getElem? he) (by rw [h4, e])
  · obtain ⟨x, hx, hk2, hv⟩ := hat j e hj
    refine .inr ⟨j, by rw [h1, hv], ?_⟩
    rw [hk] at hk2
    injection hk2 with hk2
    have := wyV_inj hm (hok x (List.mem_of_getElem? hx)) hk2
    rw [this]
    exact List.mem_of_getElem? hx
set_option maxRecDepth 100000 in
theorem run_lookW (h : SetW w b L) (hok : ∀ x ∈ L, x.Ok) (hm : m.Ok) : (Instr.lookup 45 (.map (some b)) (.agg (wyV m)) false).run Try.prog w = .ok (.bool (L.any (eqW m))) w := by
  obtain ⟨es, clock, hb, h2⟩ := h
  obtain ⟨l, hl⟩ := wy_key hm
  have hz : (zeroValue 4).run Try.prog w = .ok (.bool false) w := Try.zeroValue4 w
  rcases SetW.find hb h2 hok hm with ⟨h1, hn⟩ | ⟨j, h1, hj⟩
  · have e : L.any (eqW m) = false := by
      rw [List.any_eq_false]
      intro x hx
      rw [eqW_ne (fun e => hn x hx e.symm)]; simp
    rw [e]
    simp [Instr.lookup, run_underlying Try.underlying45, MapKept.run_getObj_map hb, wy_keyed.check w _ hl, h1, hz, Result.andThen]
  · have e : L.any (eqW m) = true := List.any_eq_true.2 ⟨m, hj, eqW_iff.2 rfl⟩
    rw [e]
    simp [Instr.lookup, run_underlying Try.underlying45, MapKept.run_getObj_map hb, wy_keyed.check w _ hl, h1, Result.andThen]
set_option maxRecDepth 100000 in
theorem run_putW (h : SetW w b L) (hok : ∀ x ∈ L, x.Ok) (hm : m.Ok) (hn : ∀ x ∈ L, x ≠ m) : ∃ w', (Instr.mapUpdate 45 (.map (some b)) (.agg (wyV m)) (.bool true)).run Try.prog w = .ok () w' ∧ SetW w' b (L ++ [m]) ∧ w.grownBy w' (some b) ∧ w'.heap.size = w.heap.size := by
  obtain ⟨es, clock, hb, h2⟩ := h
  obtain ⟨l, hl⟩ := wy_key hm
  rcases SetW.find hb h2 hok hm with ⟨h1, -⟩ | ⟨j, -, hj⟩
  · refine ⟨setBlock w b (.map (es.push ⟨.agg (wyV m), .bool true, clock⟩) (clock + 1)), ?_, ⟨es.push ⟨.agg (wyV m), .bool true, clock⟩, clock + 1, heap_setBlock_same hb _, ?_⟩, ⟨rfl, rfl, rfl, by simp [setBlock], fun i _ hi => heap_setBlock_other hb _ (fun e => hi (by rw [e]))⟩, by simp [setBlock]⟩
    · simp [Instr.mapUpdate, run_underlying Try.underlying45, MapKept.run_getObj_map hb, wy_keyed.check w false hl, h1, MapKept.run_setObj_map _ hb, Result.andThen, setBlock]
    · rw [Array.toList_push, List.map_append, h2, List.map_append]
      rfl
  · exact absurd rfl (hn _ hj)
theorem but_grownW {w w' : World} {b : Nat} (h : w.grownBy w' (some b)) : But b w w' := ⟨h.os, h.tape, h.output, h.size, fun g hg hn => h.block g hg fun e => hn (by injection e)⟩
theorem wpList_putW {ops : Array Oper} {rest : List Oper} {o : Oper} {a : Act} {w : World} {Q : Exit → Act → World → Prop} (hg : o.guard = none) (x y z : Operand) (ho : o.op = .mapUpdate 45 x y z)
    {b : Nat} {L : List Wy} {m : Wy} {C : Array Value} (hx : a.eval x = .map (some b)) (hy : a.eval y = .agg C) (hz : a.eval z = .bool true) (hC : C = wyV m) (hM : SetW w b L) (hok : ∀ x ∈ L, x.Ok) (hm : m.Ok) (hn : ∀ x ∈ L, x ≠ m)
    (h : ∀ w', SetW w' b (L ++ [m]) → But b w w' → w'.heap.size = w.heap.size → wpList Try.prog ops Q rest (a.put o.dst undef) w') : wpList Try.prog ops Q (o :: rest) a w := by
  subst hC
  refine wpList_plain hg fun K hK => ?_
  obtain ⟨w', hrun, h1, h2, h3⟩ := run_putW hM hok hm hn
  unfold Oper.wp
  simp [execOp, ho, hx, hy, hz, hrun, Result.andThen]
  exact hK _ _ (h w' h1 (but_grownW h2) h3)
theorem wpList_lookW {ops : Array Oper} {rest : List Oper} {o : Oper} {a : Act} {w : World} {Q : Exit → Act → World → Prop} (hg : o.guard = none) (x y : Operand) (ho : o.op = .lookup 45 x y false)
    {b : Nat} {C : Array Value} {q : Bool} (hx : a.eval x = .map (some b)) (hy : a.eval y = .agg C) (hq : (Instr.lookup 45 (.map (some b)) (.agg C) false).run Try.prog w = .ok (.bool q) w)
    (h : wpList Try.prog ops Q rest (a.put o.dst (.bool q)) w) : wpList Try.prog ops Q (o :: rest) a w := by
  refine wpList_plain hg fun K hK => ?_
  unfold Oper.wp
  simp [execOp, ho, hx, hy, hq, Result.andThen]
  exact hK _ _ h
end
end Go.Proofs.Ytjdenhkicikfkaa.rtC
