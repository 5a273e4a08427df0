/-
  3 texts of a proof, joined.
-/
import Derived.Test.YtjdenhkicikfkaaMg9
import Derived.Maps.OwnSet
import Derived.DeepKeys4
import Derived.OpenShut
import Derived.ChangeArms
import Derived.Deep.Slices

/-
  Ways as values: their cells, as keys of a map, '==' of them.
-/
namespace Go.Proofs.Ytjdenhkicikfkaa.rtC
open Go.ChangeShapes Go.WideShapes Go.ChangeAt Go.RowKit
open Go.Proofs.Ytjdenhkicikfkaa.memC Go.Proofs.Ytjdenhkicikfkaa.genC Go.Proofs.Ytjdenhkicikfkaa.butC Go.Proofs.Ytjdenhkicikfkaa.freeC Go.Proofs.Ytjdenhkicikfkaa.adC
open Go.Maps (Keyed)
set_option linter.unusedVariables false
def adrK (s : Bool) (b : List Int) : List Value := .bool s :: b.map (Value.int .u8)
theorem adrK_arr (s : Bool) (b : List Int) : (adrK s b).toArray = adrV s b := rfl
theorem adrK_len {s : Bool} {b : List Int} (h : b.length = 16) : (adrK s b).length = 17 := by simp [adrK, h]
theorem adrK_one (s : Bool) (b : List Int) : ∀ u ∈ adrK s b, u.oneCell' = true := fun u hu => by
  rcases List.mem_cons.1 hu with rfl | hu
  · rfl
  · obtain ⟨z, -, rfl⟩ := List.mem_map.1 hu; rfl
theorem nat_list_inj : ∀ {a b : List Int}, a.map (Value.int .u8) = b.map (Value.int .u8) → a = b
  | [], [], _ => rfl
  | [], _ :: _, h => by cases h
  | _ :: _, [], h => by cases h
  | x :: r, y :: r', h => by
    rw [List.map_cons, List.map_cons] at h
    injection h with h1 h2
    injection h1 with _ h1
    rw [h1, nat_list_inj h2]
theorem adrK_inj {s s' : Bool} {b b' : List Int} (e : adrK s b = adrK s' b') : s = s' ∧ b = b' := by
  unfold adrK at e
  injection e with e1 e2
  injection e1 with e1
  exact ⟨e1, nat_list_inj e2⟩
/-- a way -/
structure Wy where
  s : Bool
  a : List Int
  len : Int
  port : Int
  via : Bool
  t : Bool
  b : List Int
structure Wy.Ok (y : Wy) : Prop where
  la : y.a.length = 16
  lb : y.b.length = 16
  ya : ∀ x ∈ y.a, Byte x
  yb : ∀ x ∈ y.b, Byte x
  len : -9223372036854775808 ≤ y.len ∧ y.len ≤ 9223372036854775807
  port : -9223372036854775808 ≤ y.port ∧ y.port ≤ 9223372036854775807
def wyL (y : Wy) : List Value := adrK y.s y.a ++ (.int .i64 y.len :: .int .i64 y.port :: .bool y.via :: adrK y.t y.b)
def wyV (y : Wy) : Array Value := (wyL y).toArray
def zWy : Wy := ⟨false, zs 16, 0, 0, false, false, zs 16⟩
theorem zs_byte (n : Nat) : ∀ x ∈ zs n, Byte x := fun x hx => by rw [List.eq_of_mem_replicate hx]; unfold Byte; omega
theorem zWy_ok : zWy.Ok := ⟨zs_len 16, zs_len 16, zs_byte 16, zs_byte 16, by unfold zWy; simp, by unfold zWy; simp⟩
theorem wyL_len {y : Wy} (h : y.Ok) : (wyL y).length = 37 := by
  unfold wyL
  rw [List.length_append, adrK_len h.la]
  simp only [List.length_cons, adrK_len h.lb]
theorem wyV_size {y : Wy} (h : y.Ok) : (wyV y).size = 37 := by unfold wyV; rw [List.size_toArray, wyL_len h]
theorem wy_one (y : Wy) : ∀ u ∈ wyL y, u.oneCell' = true := by
  intro u hu
  unfold wyL at hu
  rcases List.mem_append.1 hu with hu | hu
  · exact adrK_one _ _ u hu
  · rcases List.mem_cons.1 hu with rfl | hu
    · rfl
    · rcases List.mem_cons.1 hu with rfl | hu
      · rfl
      · rcases List.mem_cons.1 hu with rfl | hu
        · rfl
        · exact adrK_one _ _ u hu
theorem wy_ones (y : Wy) : (wyV y).all (·.oneCell') = true := by
  unfold wyV
  rw [List.all_toArray]
  exact List.all_eq_true.2 (wy_one y)
theorem wyL_inj {y z : Wy} (h : y.Ok) (h' : z.Ok) (e : wyL y = wyL z) : y = z := by
  unfold wyL at e
  obtain ⟨e1, e2⟩ := List.append_inj e (by rw [adrK_len h.la, adrK_len h'.la])
  injection e2 with e3 e2
  injection e2 with e4 e2
  injection e2 with e5 e2
  injection e3 with _ e3
  injection e4 with _ e4
  injection e5 with e5
  obtain ⟨q1, q2⟩ := adrK_inj e1
  obtain ⟨q3, q4⟩ := adrK_inj e2
  cases y; cases z
  simp only at q1 q2 q3 q4 e3 e4 e5
  rw [q1, q2, q3, q4, e3, e4, e5]
theorem wyV_inj {y z : Wy} (h : y.Ok) (h' : z.Ok) (e : wyV y = wyV z) : y = z := wyL_inj h h' (by unfold wyV at e; exact congrArg Array.toList e)
/-! ### the parts of a way -/
theorem wy_src {y : Wy} (h : y.Ok) (j : Nat) (v : Value) (hv : (adrK y.s y.a)[j]? = some v) : (wyL y)[0 + j]? = some v := by
  have hj := (List.getElem?_eq_some_iff.1 hv).1
  unfold wyL
  rw [Nat.zero_add, List.getElem?_append_left hj]
  exact hv
theorem wy_rest {y : Wy} (h : y.Ok) (j : Nat) : (wyL y)[17 + j]? = (Value.int .i64 y.len :: .int .i64 y.port :: .bool y.via :: adrK y.t y.b)[j]? := by
  have hl := adrK_len (s := y.s) h.la
  unfold wyL
  rw [List.getElem?_append_right (by omega), hl, Nat.add_sub_cancel_left]
theorem wy_len {y : Wy} (h : y.Ok) : (wyL y)[17]? = some (.int .i64 y.len) := wy_rest h 0
theorem wy_port {y : Wy} (h : y.Ok) : (wyL y)[18]? = some (.int .i64 y.port) := wy_rest h 1
theorem wy_hasvia {y : Wy} (h : y.Ok) : (wyL y)[19]? = some (.bool y.via) := wy_rest h 2
theorem wy_via {y : Wy} (h : y.Ok) (j : Nat) (v : Value) (hv : (adrK y.t y.b)[j]? = some v) : (wyL y)[20 + j]? = some v := by
  rw [show 20 + j = 17 + (j + 3) by omega, wy_rest h]
  exact hv
theorem wy_info : (Try.prog.info? 35).map (·.size) = some 37 := by kernel_rfl
theorem rwy_info : (Try.prog.info? 30).map (·.size) = some 37 := by kernel_rfl
set_option maxRecDepth 100000 in
theorem zWy_info : (Try.prog.info? 35).map (·.zero) = some (some (.agg (wyV zWy))) := by kernel_rfl
theorem zeroWy (w : World) : (zeroValue 35).run Try.prog w = .ok (.agg (wyV zWy)) w := by
  obtain ⟨i, hi, hz⟩ := Option.map_eq_some_iff.1 zWy_info
  simp [zeroValue, typeInfo, hi, hz]
set_option maxRecDepth 100000 in
theorem built_zWy : Try.prog.built 35 [] = some (wyV zWy) := by kernel_rfl
/-! ### ways as keys -/
theorem byte_wf {z : Int} (h : Byte z) : (Lit.int .u8 z).wf = true := by
  unfold Byte at h
  simp [Lit.wf, IntKind.min, IntKind.max, IntKind.signed, IntKind.bits]
  omega
theorem key_byte (d : Nat) {z : Int} (h : Byte z) : Try.prog.keyLits (d + 1) 5 [.int .u8 z] = some [.int .u8 z] := by
  unfold Program.keyLits
  rw [Try.underlying5]
  simp [byte_wf h]
theorem key_int (d : Nat) {z : Int} (h : -9223372036854775808 ≤ z ∧ z ≤ 9223372036854775807) : Try.prog.keyLits (d + 1) 3 [.int .i64 z] = some [.int .i64 z] := by
  unfold Program.keyLits
  rw [Try.underlying3]
  have : (Lit.int .i64 z).wf = true := by
    simp [Lit.wf, IntKind.min, IntKind.max, IntKind.signed, IntKind.bits]
    omega
  simp [this]
theorem key_bool (d : Nat) (x : Bool) : Try.prog.keyLits (d + 1) 4 [.bool x] = some [.bool x] := by
  unfold Program.keyLits
  rw [Try.underlying4]
theorem cells_byte : Try.prog.cellsOf 5 = 1 := by kernel_rfl
theorem cells_arr : Try.prog.cellsOf 23 = 16 := by kernel_rfl
theorem key_arr (d : Nat) {b : List Int} (hl : b.length = 16) (h : ∀ x ∈ b, Byte x) : ∃ l, Try.prog.keyLits (d + 2) 23 (b.map (Value.int .u8)) = some l := by
  unfold Program.keyLits
  rw [Try.underlying23]
  simp only [List.length_map, hl, cells_arr, if_true, cells_byte, Nat.mul_one]
  have hm : ∀ (is : List Nat), (∀ i ∈ is, i < 16) → ∃ l, is.mapM (fun i => Try.prog.keyLits (d + 1) 5 (((b.map (Value.int .u8)).drop i).take 1)) = some l := by
    intro is
    induction is with
    | nil => intro _; exact ⟨[], rfl⟩
    | cons i r ih =>
      intro hi
      obtain ⟨l, hl2⟩ := ih fun j hj => hi j (by simp [hj])
      have h16 : i < b.length := by rw [hl]; exact hi i (by simp)
      have e : ((b.map (Value.int .u8)).drop i).take 1 = [.int .u8 b[i]] := by
        rw [List.drop_eq_getElem_cons (by rw [List.length_map]; exact h16)]
        simp
      refine ⟨[.int .u8 b[i]] :: l, ?_⟩
      rw [List.mapM_cons, e, key_byte d (h _ (List.getElem_mem h16)), hl2]
      rfl
  obtain ⟨l, hl2⟩ := hm (List.range 16) (fun i hi => List.mem_range.1 hi)
  exact ⟨l.flatten, by rw [hl2]; rfl⟩
theorem fields_adr : Try.prog.underlying 25 = some (.struct (Try.prog.fieldsOf 25)) := by simp [Program.fieldsOf, Try.underlying25]
theorem fields_adr_list : (Try.prog.fieldsOf 25).toList.map (fun f => (f.type, f.offset, Try.prog.cellsOf f.type)) = [(4, 0, 1), (23, 1, 16)] := by kernel_rfl
theorem fields_adr_all : (Try.prog.fieldsOf 25).all (·.name != "_") = true := by kernel_rfl
theorem cells_adr : Try.prog.cellsOf 25 = 17 := by kernel_rfl
theorem mapM_fields (d : Nat) (cs : List Value) : ∀ (fs : List Field), fs.mapM (fun f => Try.prog.keyLits d f.type ((cs.drop f.offset).take (Try.prog.cellsOf f.type))) = (fs.map (fun f => (f.type, f.offset, Try.prog.cellsOf f.type))).mapM (fun x => Try.prog.keyLits d x.1 ((cs.drop x.2.1).take x.2.2))
  | [] => rfl
  | f :: r => by
    rw [List.mapM_cons, List.map_cons, List.mapM_cons, mapM_fields d cs r]
theorem key_addr (d : Nat) (s : Bool) {b : List Int} (hl : b.length = 16) (h : ∀ x ∈ b, Byte x) : ∃ l, Try.prog.keyLits (d + 3) 25 (adrK s b) = some l := by
  unfold Program.keyLits
  rw [fields_adr]
  simp only [adrK_len hl, cells_adr, fields_adr_all, true_and, if_true]
  obtain ⟨l, hl2⟩ := key_arr d hl h
  have e1 : ((adrK s b).drop 0).take 1 = [.bool s] := rfl
  have e2 : ((adrK s b).drop 1).take 16 = b.map (Value.int .u8) := by
    show (b.map (Value.int .u8)).take 16 = _
    rw [List.take_of_length_le (by rw [List.length_map, hl]; exact Nat.le_refl _)]
  refine ⟨([[.bool s], l]).flatten, ?_⟩
  rw [mapM_fields, fields_adr_list, List.mapM_cons]
  simp only [e1]
  rw [key_bool, List.mapM_cons]
  simp only [e2]
  rw [hl2]
  rfl
theorem fields_wy : Try.prog.underlying 35 = some (.struct (Try.prog.fieldsOf 35)) := by simp [Program.fieldsOf, Try.underlying35]
theorem fields_wy_list : (Try.prog.fieldsOf 35).toList.map (fun f => (f.type, f.offset, Try.prog.cellsOf f.type)) = [(25, 0, 17), (3, 17, 1), (3, 18, 1), (4, 19, 1), (25, 20, 17)] := by kernel_rfl
theorem fields_wy_all : (Try.prog.fieldsOf 35).all (·.name != "_") = true := by kernel_rfl
theorem cells_wy : Try.prog.cellsOf 35 = 37 := by kernel_rfl
theorem key_wy0 (d : Nat) {m : Wy} (h : m.Ok) : ∃ l, Try.prog.keyLits (d + 4) 35 (wyL m) = some l := by
  unfold Program.keyLits
  rw [fields_wy]
  simp only [wyL_len h, cells_wy, fields_wy_all, true_and, if_true]
  obtain ⟨l1, hl1⟩ := key_addr d m.s h.la h.ya
  obtain ⟨l2, hl2⟩ := key_addr d m.t h.lb h.yb
  have n1 := adrK_len (s := m.s) h.la
  have n2 := adrK_len (s := m.t) h.lb
  have e1 : ((wyL m).drop 0).take 17 = adrK m.s m.a := by
    unfold wyL
    rw [List.drop_zero, List.take_append_of_le_length (by omega), List.take_of_length_le (by omega)]
  have e17 : (wyL m).drop 17 = .int .i64 m.len :: .int .i64 m.port :: .bool m.via :: adrK m.t m.b := by
    unfold wyL
    rw [List.drop_append_of_le_length (by omega), List.drop_of_length_le (by omega), List.nil_append]
  have e2 : ((wyL m).drop 17).take 1 = [.int .i64 m.len] := by rw [e17]; rfl
  have e3 : ((wyL m).drop 18).take 1 = [.int .i64 m.port] := by
    rw [show 18 = 17 + 1 from rfl, ← List.drop_drop, e17]; rfl
  have e4 : ((wyL m).drop 19).take 1 = [.bool m.via] := by
    rw [show 19 = 17 + 2 from rfl, ← List.drop_drop, e17]; rfl
  have e5 : ((wyL m).drop 20).take 17 = adrK m.t m.b := by
    rw [show 20 = 17 + 3 from rfl, ← List.drop_drop, e17]
    exact List.take_of_length_le (by show (adrK m.t m.b).length ≤ 17; omega)
  refine ⟨([l1, [.int .i64 m.len], [.int .i64 m.port], [.bool m.via], l2]).flatten, ?_⟩
  rw [mapM_fields, fields_wy_list, List.mapM_cons]
  simp only [e1]
  rw [hl1, List.mapM_cons]
  simp only [e2]
  rw [key_int (d + 2) h.len, List.mapM_cons]
  simp only [e3]
  rw [key_int (d + 2) h.port, List.mapM_cons]
  simp only [e4]
  rw [key_bool (d + 2), List.mapM_cons]
  simp only [e5]
  rw [hl2]
  rfl
theorem wy_keyed : Keyed Try.prog 35 := Keyed.of_law (deep_law (m := 4) (by decide) (by kernel_rfl) (by kernel_rfl) (by rw [fields_wy]))
theorem wy_types : ∃ d, Try.prog.types.size + 1 = d + 4 := ⟨Try.prog.types.size - 3, by
  have : 4 ≤ Try.prog.types.size := by
    have h : decide (4 ≤ Try.prog.types.size) = true := by kernel_rfl
    exact of_decide_eq_true h
  omega⟩
theorem wy_key {m : Wy} (h : m.Ok) : ∃ l, keyOf Try.prog 35 (.agg (wyV m)) = some l := by
  obtain ⟨d, hd⟩ := wy_types
  obtain ⟨l, hl⟩ := key_wy0 d h
  unfold keyOf
  rw [fields_wy]
  have h1 : Try.prog.keyType 35 = true := by kernel_rfl
  have h2 : (Value.agg (wyV m)).formed Try.prog 35 = true := by
    unfold Value.formed
    rw [fields_wy]
    simp only [wyV_size h, cells_wy]
    rfl
  have h3 : (Value.agg (wyV m)).cells.toList = wyL m := by simp [Value.cells, wyV]
  simp only [h1, h2, Bool.and_self, if_true, h3, hd, hl]
  exact ⟨_, rfl⟩
/-! ### '==' of ways -/
def eqW (a b : Wy) : Bool := decide (a.s = b.s ∧ a.a = b.a ∧ a.len = b.len ∧ a.port = b.port ∧ a.via = b.via ∧ a.t = b.t ∧ a.b = b.b)
theorem eqW_iff {a b : Wy} : eqW a b = true ↔ a = b := by
  unfold eqW
  rw [decide_eq_true_iff]
  constructor
  · rintro ⟨h1, h2, h3, h4, h5, h6, h7⟩; cases a; cases b; simp only at h1 h2 h3 h4 h5 h6 h7; rw [h1, h2, h3, h4, h5, h6, h7]
  · rintro rfl; exact ⟨rfl, rfl, rfl, rfl, rfl, rfl, rfl⟩
theorem eqW_ne {a b : Wy} (h : a ≠ b) : eqW a b = false := by
  cases e : eqW a b
  · rfl
  · exact absurd (eqW_iff.1 e) h
theorem wy_guard : Try.prog.eqGuardType Try.prog.depth 35 = false := by kernel_rfl
set_option maxRecDepth 100000 in
theorem eqW_run {a b : Wy} (ha : a.Ok) (hb : b.Ok) (w : World) : (Op.equalIn 10000 35 (.agg (wyV a)) (.agg (wyV b))).run Try.prog w = .ok (eqW a b) w := by
  obtain ⟨la, hla⟩ := wy_key ha
  obtain ⟨lb, hlb⟩ := wy_key hb
  obtain ⟨r, hr, hiff⟩ := run_equal_deep w (m := 4) (by omega) (by kernel_rfl) (by rw [fields_wy]) hla hlb
  have e : r = eqW a b := by
    cases hq : eqW a b
    · cases r
      · rfl
      · have e1 := hiff.1 rfl
        subst e1
        have := wy_keyed.inj hla hlb
        injection this with this
        have := wyV_inj ha hb this
        rw [eqW_iff.2 this] at hq
        cases hq
    · have := eqW_iff.1 hq
      subst this
      rw [hla] at hlb
      injection hlb with hlb
      exact hiff.2 hlb
  rw [← e]
  exact hr
/-- '!=' of two values of many cells -/
theorem ne_run {P : Program} {fr : Act} {o : Oper} {w : World} {T R : TypeId} {s x : Tmp} {A B : Array Value} {q : Bool} (ho : o.op = .binOp .neq T (.tmp s) (.tmp x) R) (hs : fr.tmps[s]?.getD undef = .agg A) (hx : fr.tmps[x]?.getD undef = .agg B)
    (hq : (Op.equalIn 10000 T (.agg A) (.agg B)).run P w = .ok q w) (hgd : P.eqGuardType P.depth T = false) : (execOp fr.eval o).run P w = .ok (.value (.bool (!q))) w := by
  unfold execOp
  rw [ho]
  go_simp
end Go.Proofs.Ytjdenhkicikfkaa.rtC

/-
  Ways and steps as arguments; what a step holds.
-/
namespace Go.Proofs.Ytjdenhkicikfkaa.rtC
open Go.ChangeShapes Go.WideShapes Go.ChangeAt Go.RowKit
open Go.Proofs.Ytjdenhkicikfkaa.memC Go.Proofs.Ytjdenhkicikfkaa.genC Go.Proofs.Ytjdenhkicikfkaa.butC Go.Proofs.Ytjdenhkicikfkaa.freeC Go.Proofs.Ytjdenhkicikfkaa.adC
set_option linter.unusedVariables false
set_option linter.constructorNameAsVariable false
/-- a step: one call -/
structure Sr where
  k : Int
  y : Wy
  s : Bool
  a : List Int
structure Sr.Ok (r : Sr) : Prop where
  k : Byte r.k
  y : r.y.Ok
  la : r.a.length = 16
  ya : ∀ x ∈ r.a, Byte x
def Sr.cells (r : Sr) : List Value := .int .u8 r.k :: (wyL r.y ++ adrK r.s r.a)
def zSr : Sr := ⟨0, zWy, false, zs 16⟩
theorem Sr.cells_len {r : Sr} (h : r.Ok) : r.cells.length = 55 := by unfold Sr.cells; simp [wyL_len h.y, adrK_len h.la]
theorem Sr.one {r : Sr} : ∀ u ∈ r.cells, u.oneCell' = true := by
  intro u hu
  unfold Sr.cells at hu
  rcases List.mem_cons.1 hu with rfl | hu
  · rfl
  · rcases List.mem_append.1 hu with hu | hu
    · exact wy_one _ u hu
    · exact adrK_one _ _ u hu
theorem Sr.ones (r : Sr) : r.cells.toArray.all (·.oneCell') = true := by
  rw [List.all_toArray]
  exact List.all_eq_true.2 Sr.one
theorem Sr.way {r : Sr} (h : r.Ok) (j : Nat) (v : Value) (hv : (wyL r.y)[j]? = some v) : r.cells[1 + j]? = some v := by
  unfold Sr.cells
  rw [Nat.add_comm, List.getElem?_cons_succ, List.getElem?_append_left (List.getElem?_eq_some_iff.1 hv).1]
  exact hv
theorem Sr.at_ {r : Sr} (h : r.Ok) (j : Nat) (v : Value) (hv : (adrK r.s r.a)[j]? = some v) : r.cells[38 + j]? = some v := by
  have hl := wyL_len h.y
  unfold Sr.cells
  rw [show 38 + j = (37 + j) + 1 by omega, List.getElem?_cons_succ, List.getElem?_append_right (by omega), hl, Nat.add_sub_cancel_left]
  exact hv
theorem step_info : (Try.prog.info? 32).map (·.size) = some 55 := by kernel_rfl
set_option maxRecDepth 100000 in
theorem zSr_info : (Try.prog.info? 32).map (·.zero) = some (some (.agg zSr.cells.toArray)) := by kernel_rfl
theorem zeroStep (w : World) : (zeroValue 32).run Try.prog w = .ok (.agg zSr.cells.toArray) w := by
  obtain ⟨i, hi, hz⟩ := Option.map_eq_some_iff.1 zSr_info
  simp [zeroValue, typeInfo, hi, hz]
theorem zSr_len : zSr.cells.toArray.size = 55 := by
  rw [List.size_toArray]
  exact Sr.cells_len ⟨by unfold zSr Byte; simp, zWy_ok, zs_len 16, zs_byte 16⟩
theorem Sr.size {r : Sr} (h : r.Ok) : (Try.prog.info? 32).map (·.size) = some r.cells.toArray.size := by rw [step_info]; simp [Sr.cells_len h]
/-- the slice at A, of n steps, lies below block B -/
structure SksR (w : World) (B : Nat) (A : Option Addr) (n : Nat) (ss : List Sr) : Prop where
  len : ss.length = n
  at_ : 0 < n → ∃ b o, A = some ⟨b, o, none⟩ ∧ b < B ∧ ∀ i s, ss[i]? = some s → ∀ j v, s.cells[j]? = some v → w.cell? ⟨b, o + i * 55 + j, none⟩ = some v
  ok : ∀ s ∈ ss, s.Ok
theorem SksR.below {w w' : World} {B B' : Nat} {A : Option Addr} {n : Nat} {ss : List Sr} (h : SksR w B A n ss) (hb : Below B w w') (hB : B ≤ B') : SksR w' B' A n ss :=
  ⟨h.len, fun hn => by
    obtain ⟨b, o, e, hlt, hc⟩ := h.at_ hn
    exact ⟨b, o, e, by omega, fun i f hf j v hv => (hb.cell (p := ⟨b, o + i * 55 + j, none⟩) hlt).trans (hc i f hf j v hv)⟩, h.ok⟩
theorem SksR.upto {w : World} {B : Nat} {A : Option Addr} {n : Nat} {ss : List Sr} (h : SksR w B A n ss) {m : Nat} (hm : m ≤ n) : SksR w B A m (ss.take m) := by
  refine ⟨by rw [List.length_take, h.len]; omega, fun h0 => ?_, fun s hs => h.ok s (List.mem_of_mem_take hs)⟩
  obtain ⟨b, o, e, hb, hc⟩ := h.at_ (by omega)
  refine ⟨b, o, e, hb, fun i s hs => ?_⟩
  rw [List.getElem?_take] at hs
  split at hs
  · exact hc i s hs
  · cases hs
theorem cut_headR (A : Option Addr) (n c k : Nat) (h : k ≤ c) (w : World) : (Instr.slice 22 (.slice A n c) none (some (.int .i64 (k : Int))) none).run Try.prog w = .ok (.slice A k c) w := by
  have k1 : (k : Int) ≤ (c : Int) := by omega
  have k2 : (0 : Int) ≤ (k : Int) := by omega
  go_simp
theorem short_any (A : Option Addr) (n c : Nat) (w : World) (h : n ≤ c) : Calls Try.prog 7 #[.slice A n c] w fun e w' => e = .returned (.slice A (min n 200) c) ∧ w' = w := by
  have hm : (if (200 : Int) < (n : Int) then (200 : Int) else (n : Int)) = ((min n 200 : Nat) : Int) := by split <;> omega
  have sc := cut_headR A n c (min n 200) (by omega) w
  generalize min n 200 = m at *
  go_enter Try.func7, Try.ntmps7
  go_wp2_with fail
  go_ret
  exact ⟨rfl, rfl⟩
section
variable {H : Type} {enc : TypeId × Value → H} {w : World} {base : Nat} {spare : Nat → Bool} {held : Bool} {fuel : Nat} {cs : List Value} {x : DataW H × List MemPlace}
theorem is_rwy : Try.prog.underlying 30 = some (.struct (Try.prog.fieldsOf 30)) := by simp [Program.fieldsOf, Try.underlying30]
theorem is_step : Try.prog.underlying 32 = some (.struct (Try.prog.fieldsOf 32)) := by simp [Program.fieldsOf, Try.underlying32]
theorem adr_fs : (Try.prog.fieldsOf 25).toList.map (fun f => (f.type, f.offset)) = [(4, 0), (23, 1)] := by kernel_rfl
theorem rwy_fs : (Try.prog.fieldsOf 30).toList.map (fun f => (f.type, f.offset)) = [(25, 0), (3, 17), (3, 18), (4, 19), (25, 20)] := by kernel_rfl
theorem stp_fs : (Try.prog.fieldsOf 32).toList.map (fun f => (f.type, f.offset)) = [(5, 0), (30, 1), (25, 38)] := by kernel_rfl
theorem cellsK : Try.prog.cellsOf 25 = 17 ∧ Try.prog.cellsOf 23 = 16 ∧ Try.prog.cellsOf 5 = 1 ∧ Try.prog.cellsOf 3 = 1 ∧ Try.prog.cellsOf 4 = 1 ∧ Try.prog.cellsOf 30 = 37 ∧ Try.prog.cellsOf 32 = 55 := ⟨by kernel_rfl, by kernel_rfl, by kernel_rfl, by kernel_rfl, by kernel_rfl, by kernel_rfl, by kernel_rfl⟩
/-- a field's reading -/
theorem field_read {t : TypeId} {fs : Array Field} {L : List (TypeId × Nat)} (ht : Try.prog.underlying t = some (.struct fs)) (hL : fs.toList.map (fun f => (f.type, f.offset)) = L) (h : DataW.trod enc Try.prog w base spare held fuel t cs = some x) :
    cs.length = Try.prog.cellsOf t ∧ ∃ n : Nat, ∀ (i : Nat) (u : TypeId) (o : Nat), L[i]? = some (u, o) → ∃ y, DataW.trod enc Try.prog w base spare held n u ((cs.drop o).take (Try.prog.cellsOf u)) = some y := by
  obtain ⟨ys, n, -, -, hl, hyl, hg⟩ := DataW.trod_struct ht h
  refine ⟨hl, n, fun i u o hi => ?_⟩
  rw [← hL, List.getElem?_map] at hi
  cases hf : fs.toList[i]? with
  | none => rw [hf] at hi; cases hi
  | some f =>
    rw [hf] at hi
    injection hi with hi
    injection hi with h1 h2
    have hf2 : fs[i]? = some f := by rw [← Array.getElem?_toList]; exact hf
    have := hg i f hf2
    rw [h1, h2] at this
    have hlt : i < ys.length := by rw [hyl]; exact (Array.getElem?_eq_some_iff.1 hf2).1
    exact ⟨ys[i], this.trans (List.getElem?_eq_getElem hlt)⟩
theorem split_at (l : List Value) (a k : Nat) : l.drop a = (l.drop a).take k ++ l.drop (a + k) := by
  rw [← List.drop_drop]; exact (List.take_append_drop k _).symm
set_option maxRecDepth 100000 in
theorem adr_trod (h : DataW.trod enc Try.prog w base spare held fuel 25 cs = some x) : ∃ s b, cs = adrK s b ∧ b.length = 16 ∧ ∀ y ∈ b, Byte y := by
  obtain ⟨hl, n, hg⟩ := field_read fields_adr adr_fs h
  obtain ⟨c1, c2, c3, c4, c5, c6, c7⟩ := cellsK
  obtain ⟨y0, g0⟩ := hg 0 _ _ rfl
  obtain ⟨y1, g1⟩ := hg 1 _ _ rfl
  rw [cellsK.2.2.2.2.1] at g0
  rw [c2] at g1
  rw [c1] at hl
  obtain ⟨s, q0, -⟩ := DataW.trod_bool Try.underlying4 g0
  obtain ⟨xs, m, -, -, -, hxl, he⟩ := DataW.trod_array Try.underlying23 g1
  rw [c3] at he
  obtain ⟨l, hL⟩ : ∃ l, l = (cs.drop 1).take 16 := ⟨_, rfl⟩
  rw [← hL] at he
  have hll : l.length = 16 := by rw [hL, List.length_take, List.length_drop]; omega
  have key : ∀ i, i < 16 → ∃ z, l[i]? = some (.int .u8 z) ∧ Byte z := fun i hi => by
    have h1 := he i hi
    rw [List.getElem?_eq_getElem (show i < xs.length by omega)] at h1
    obtain ⟨z, h2, -, h3⟩ := DataW.trod_int Try.underlying5 h1
    have h4 : ((l.drop (i * 1)).take 1)[0]? = some (.int .u8 z) := by rw [h2]; rfl
    rw [List.getElem?_take_of_lt (by decide), List.getElem?_drop, Nat.mul_one, Nat.add_zero] at h4
    exact ⟨z, h4, bounds_u8 h3⟩
  refine ⟨s, l.map (fun v => match v with | .int _ z => z | _ => 0), ?_, by rw [List.length_map, hll], fun y hy => ?_⟩
  · have e : cs = (cs.drop 0).take 1 ++ ((cs.drop 1).take 16) := by
      have h1 := split_at cs 0 1
      have h2 := split_at cs 1 16
      rw [show cs.drop (1 + 16) = [] from List.drop_eq_nil_of_le (by omega), List.append_nil] at h2
      rw [List.drop_zero, Nat.zero_add, h2] at h1
      exact h1
    rw [q0, ← hL] at e
    rw [e]
    unfold adrK
    rw [List.singleton_append]
    congr 1
    refine List.ext_getElem? fun i => ?_
    rw [List.getElem?_map, List.getElem?_map]
    by_cases hi : i < 16
    · obtain ⟨z, hz, -⟩ := key i hi
      rw [hz]; rfl
    · rw [List.getElem?_eq_none (by omega)]; rfl
  · obtain ⟨v, hv, rfl⟩ := List.mem_map.1 hy
    obtain ⟨i, hi⟩ := List.mem_iff_getElem?.1 hv
    have hi16 : i < 16 := by have := (List.getElem?_eq_some_iff.1 hi).1; omega
    obtain ⟨z, hz, hb⟩ := key i hi16
    rw [hi] at hz
    injection hz with hz
    subst hz
    exact hb
set_option maxRecDepth 100000 in
theorem wy_trod (h : DataW.trod enc Try.prog w base spare held fuel 30 cs = some x) : ∃ y : Wy, cs = wyL y ∧ y.Ok := by
  obtain ⟨hl, n, hg⟩ := field_read is_rwy rwy_fs h
  obtain ⟨c1, c2, c3, c4, c5, c6, c7⟩ := cellsK
  rw [c6] at hl
  obtain ⟨y0, g0⟩ := hg 0 _ _ rfl
  obtain ⟨y1, g1⟩ := hg 1 _ _ rfl
  obtain ⟨y2, g2⟩ := hg 2 _ _ rfl
  obtain ⟨y3, g3⟩ := hg 3 _ _ rfl
  obtain ⟨y4, g4⟩ := hg 4 _ _ rfl
  rw [c1] at g0 g4
  rw [c4] at g1 g2
  rw [c5] at g3
  obtain ⟨s, a, q0, la, ya⟩ := adr_trod g0
  obtain ⟨z1, q1, -, w1⟩ := DataW.trod_int Try.underlying3 g1
  obtain ⟨z2, q2, -, w2⟩ := DataW.trod_int Try.underlying3 g2
  obtain ⟨z3, q3, -⟩ := DataW.trod_bool Try.underlying4 g3
  obtain ⟨t, b, q4, lb, yb⟩ := adr_trod g4
  refine ⟨⟨s, a, z1, z2, z3, t, b⟩, ?_, ⟨la, lb, ya, yb, bounds_i64 w1, bounds_i64 w2⟩⟩
  have e : cs = (cs.drop 0).take 17 ++ ((cs.drop 17).take 1 ++ ((cs.drop 18).take 1 ++ ((cs.drop 19).take 1 ++ ((cs.drop 20).take 17 ++ cs.drop 37)))) :=
    (split_at cs 0 17).trans (congrArg (_ ++ ·) ((split_at cs 17 1).trans (congrArg (_ ++ ·) ((split_at cs 18 1).trans (congrArg (_ ++ ·) ((split_at cs 19 1).trans (congrArg (_ ++ ·) (split_at cs 20 17))))))))
  rw [q0, q1, q2, q3, q4, show cs.drop 37 = [] from List.drop_eq_nil_of_le (by omega), List.append_nil] at e
  rw [e]
  rfl
set_option maxRecDepth 100000 in
theorem step_trod (h : DataW.trod enc Try.prog w base spare held fuel 32 cs = some x) : ∃ s : Sr, cs = s.cells ∧ s.Ok := by
  obtain ⟨hl, n, hg⟩ := field_read is_step stp_fs h
  obtain ⟨c1, c2, c3, c4, c5, c6, c7⟩ := cellsK
  rw [c7] at hl
  obtain ⟨y0, g0⟩ := hg 0 _ _ rfl
  obtain ⟨y1, g1⟩ := hg 1 _ _ rfl
  obtain ⟨y2, g2⟩ := hg 2 _ _ rfl
  rw [c3] at g0
  rw [c6] at g1
  rw [c1] at g2
  obtain ⟨k, q0, -, w0⟩ := DataW.trod_int Try.underlying5 g0
  obtain ⟨y, q1, ok⟩ := wy_trod g1
  obtain ⟨s, a, q2, la, ya⟩ := adr_trod g2
  refine ⟨⟨k, y, s, a⟩, ?_, ⟨bounds_u8 w0, ok, la, ya⟩⟩
  have e9 : cs = (cs.drop 0).take 1 ++ ((cs.drop 1).take 37 ++ ((cs.drop 38).take 17 ++ cs.drop 55)) := (split_at cs 0 1).trans (congrArg (_ ++ ·) ((split_at cs 1 37).trans (congrArg (_ ++ ·) (split_at cs 38 17))))
  rw [q0, q1, q2, show cs.drop 55 = [] from List.drop_eq_nil_of_le (by omega), List.append_nil] at e9
  rw [e9]
  rfl
end
section
variable {H : Type} {enc : TypeId × Value → H} {w : World} {base : Nat} {spare : Nat → Bool} {held : Bool} {r : Reach} {b0 : Nat} {v : Value} {d : DataW H} {ps : List MemPlace}
theorem open_way (hval : Value.okWide Try.prog w r b0 30 v) (hd : DataW.Trod enc Try.prog w base spare held 30 v d ps) : ∃ y : Wy, v = .agg (wyV y) ∧ y.Ok := by
  obtain ⟨fuel, hf⟩ := hd
  unfold Value.okWide at hval
  rw [is_rwy] at hval
  obtain ⟨cs, rfl, -⟩ := hval
  obtain ⟨l⟩ := cs
  obtain ⟨y, h1, h2⟩ := wy_trod (cs := l) hf
  exact ⟨y, by rw [h1]; rfl, h2⟩
theorem open_step (hval : Value.okWide Try.prog w r b0 32 v) (hd : DataW.Trod enc Try.prog w base spare held 32 v d ps) : ∃ s : Sr, v = .agg s.cells.toArray ∧ s.Ok := by
  obtain ⟨fuel, hf⟩ := hd
  unfold Value.okWide at hval
  rw [is_step] at hval
  obtain ⟨cs, rfl, -⟩ := hval
  obtain ⟨l⟩ := cs
  obtain ⟨y, h1, h2⟩ := step_trod (cs := l) hf
  exact ⟨y, by rw [h1], h2⟩
theorem open_adr (hval : Value.okWide Try.prog w r b0 25 v) (hd : DataW.Trod enc Try.prog w base spare held 25 v d ps) : ∃ s a, v = .agg (adrV s a) ∧ a.length = 16 ∧ ∀ x ∈ a, Byte x := by
  obtain ⟨fuel, hf⟩ := hd
  unfold Value.okWide at hval
  rw [fields_adr] at hval
  obtain ⟨cs, rfl, -⟩ := hval
  obtain ⟨l⟩ := cs
  obtain ⟨s, a, h1, h2, h3⟩ := adr_trod (cs := l) hf
  exact ⟨s, a, by rw [h1]; rfl, h2, h3⟩
set_option maxRecDepth 100000 in
theorem open_steps (hsp : ∀ b, spare b = true) (hval : Value.okWide Try.prog w r b0 22 v) (hd : DataW.Trod enc Try.prog w base spare held 22 v d ps) : ∃ A n c ss, v = .slice A n c ∧ n ≤ c ∧ c ≤ 9223372036854775807 ∧ SksR w w.heap.size A n ss := by
  obtain ⟨a, len, cap, rfl⟩ := okWide_slice Try.underlying22 hval
  obtain ⟨fuel, hf⟩ := hd
  rcases Go.Deep.open_slice Try.underlying22 hf with ⟨hcs, -⟩ | ⟨a2, l2, c2, m, n, D, Pl, hcs, hb, hl, hm, hmm, -, hx⟩
  · simp [Value.cells] at hcs
    obtain ⟨rfl, rfl, rfl⟩ := hcs
    exact ⟨none, 0, 0, [], rfl, Nat.le_refl _, Nat.zero_le _, ⟨rfl, fun h => absurd h (Nat.lt_irrefl 0), by simp⟩⟩
  · simp [Value.cells] at hcs
    obtain ⟨rfl, rfl, rfl⟩ := hcs
    rw [hsp, if_pos rfl] at hmm
    rw [cellsK.2.2.2.2.2.2] at hx
    unfold maxLen at hm
    obtain ⟨f, hfx⟩ : ∃ f : Nat → Sr, ∀ i, i < len → (f i).Ok ∧ ∀ j v, (f i).cells[j]? = some v → w.cell? ((a2.add (i * 55)).add j) = some v := by
      have : ∀ i, ∃ s : Sr, i < len → s.Ok ∧ ∀ j v, s.cells[j]? = some v → w.cell? ((a2.add (i * 55)).add j) = some v := fun i => by
        by_cases hi : i < len
        · obtain ⟨cs', h1, h2⟩ := hx i (by omega)
          obtain ⟨-, h4, h5⟩ := World.cells?_some h1
          obtain ⟨s, rfl, h6⟩ := step_trod h2
          refine ⟨s, fun _ => ⟨h6, fun j v hv => ?_⟩⟩
          rw [h5 j (by rw [← h4]; exact (List.getElem?_eq_some_iff.1 hv).1)]
          exact hv
        · exact ⟨zSr, fun h => absurd h hi⟩
      exact ⟨fun i => Classical.choose (this i), fun i => Classical.choose_spec (this i)⟩
    refine ⟨some a2, len, cap, (List.range len).map f, rfl, hl, by omega, ⟨by simp, fun h0 => ?_, fun s hs => ?_⟩⟩
    · obtain ⟨b, off, spot⟩ := a2
      have hc0 := (hfx 0 h0).2 0 _ rfl
      have hspot : spot = none := by simpa [Addr.add] using World.cell?_spot hc0
      subst hspot
      refine ⟨b, off, rfl, ?_, fun i s hi j v hv => ?_⟩
      · have := World.block_lt_of_cell? _ _ hc0
        rw [memC.add_plain, memC.add_plain] at this
        exact this
      · have hil : i < len := by have := (List.getElem?_eq_some_iff.1 hi).1; simpa using this
        rw [List.getElem?_map, List.getElem?_range hil] at hi
        injection hi with hi
        subst hi
        have := (hfx i hil).2 j v hv
        rw [memC.add_plain, memC.add_plain] at this
        exact this
    · obtain ⟨i, hi, rfl⟩ := List.mem_map.1 hs
      exact (hfx i (List.mem_range.1 hi)).1
end
end Go.Proofs.Ytjdenhkicikfkaa.rtC

/-
  What follows of masking: what is masked is masked to itself; what lies in a longer prefix lies in a shorter one.
-/
namespace Go.Proofs.Ytjdenhkicikfkaa.adC
open Go.ChangeShapes Go.WideShapes Go.ChangeAt Go.RowKit
open Go.Proofs.Ytjdenhkicikfkaa.memC Go.Proofs.Ytjdenhkicikfkaa.genC
set_option linter.unusedVariables false
theorem mk1_less_all : ∀ k' : Nat, k' < 9 → ∀ k : Nat, k < k' + 1 → ∀ n : Nat, n < 256 → mk1 (mk1 (n : Int) k') k = mk1 n k := by decide +kernel
theorem mk1_less {x : Int} (h : Byte x) {k k' : Nat} (h8 : k' ≤ 8) (hk : k ≤ k') : mk1 (mk1 x k') k = mk1 x k := by
  unfold Byte at h
  have := mk1_less_all k' (by omega) k (by omega) x.toNat (by omega)
  rwa [show ((x.toNat : Nat) : Int) = x by omega] at this
theorem kpN_mono {l l' : Int} (h : l ≤ l') (i : Nat) : kpN l i ≤ kpN l' i := by unfold kpN; omega
theorem ext16 {x y : List Int} (hx : x.length = 16) (hy : y.length = 16) (h : ∀ j, j < 16 → x.getD j 0 = y.getD j 0) : x = y := by
  apply List.ext_getElem?
  intro j
  by_cases hj : j < 16
  · have := h j hj
    rw [List.getD_eq_getElem?_getD, List.getD_eq_getElem?_getD, List.getElem?_eq_getElem (by omega), List.getElem?_eq_getElem (by omega)] at this
    rw [List.getElem?_eq_getElem (by omega), List.getElem?_eq_getElem (by omega)]
    exact congrArg some this
  · rw [List.getElem?_eq_none (by omega), List.getElem?_eq_none (by omega)]
theorem mskL_byte {b : List Int} (hl : b.length = 16) (hy : ∀ x ∈ b, Byte x) (len : Int) : ∀ x ∈ mskL b len, Byte x := by
  have hm := mskL_len len hl
  have ha := fun j hj => mskL_at len hl (j := j) hj
  generalize mskL b len = m at *
  intro x hx
  obtain ⟨i, hi, rfl⟩ := List.getElem_of_mem hx
  have h1 := ha i (by omega)
  rw [List.getD_eq_getElem?_getD, List.getElem?_eq_getElem hi] at h1
  simp only [Option.getD_some] at h1
  rw [h1]
  exact mk1_byte (getD_byte hy (by omega)) _
/-- what is masked at a longer length, masked at a shorter one -/
theorem mskL_less {b : List Int} (hl : b.length = 16) (hy : ∀ x ∈ b, Byte x) {l l' : Int} (h : l ≤ l') : mskL (mskL b l') l = mskL b l := by
  have hm := mskL_len l' hl
  have ha := fun j hj => mskL_at l' hl (j := j) hj
  have hc := fun j hj => mskL_at l hl (j := j) hj
  have hn := mskL_len l hl
  generalize mskL b l' = m at *
  generalize mskL b l = n at *
  have hd := fun j hj => mskL_at l hm (j := j) hj
  have he := mskL_len l hm
  generalize mskL m l = q at *
  refine ext16 he hn fun j hj => ?_
  rw [hd j hj, ha j hj, hc j hj]
  exact mk1_less (getD_byte hy (by omega)) (kpN_le _ _) (kpN_mono h j)
theorem outO_some (x : Bool × List Int) : outO (some x) = x := rfl
theorem maskO_some {s : Bool} {b : List Int} {len : Int} (h0 : ¬ len < 0) (h : ¬ 8 * (adrN s : Int) < len) : maskO s b len = some (s, mskL b len) := by unfold maskO; rw [if_neg (by omega)]
theorem maskO_of {s : Bool} {b : List Int} {len : Int} (h : maskO s b len ≠ none) : ¬ len < 0 ∧ ¬ 8 * (adrN s : Int) < len := by
  unfold maskO at h
  split at h
  · exact absurd rfl h
  · omega
theorem lies_self {s : Bool} {a b : List Int} {len : Int} (h0 : ¬ len < 0) (h : ¬ 8 * (adrN s : Int) < len) (hm : mskL a len = mskL b len) : liesL s a s b len = true := by
  unfold liesL
  rw [maskO_some h0 h, maskO_some h0 h, outO_some, outO_some, hm]
  simp
theorem lies_none {s s' : Bool} {a b : List Int} {len : Int} (h : maskO s a len = none) : liesL s a s' b len = false := by
  unfold liesL
  rw [h]; rfl
/-- what lies in a longer prefix lies in a shorter one -/
theorem lies_less {s s' : Bool} {a b : List Int} {len less : Int} (ha : a.length = 16) (hb : b.length = 16) (ya : ∀ x ∈ a, Byte x) (yb : ∀ x ∈ b, Byte x) (h0 : ¬ len < 0) (h : ¬ 8 * (adrN s : Int) < len)
    (l0 : ¬ less < 0) (l1 : less ≤ len) (hL : liesL s' b s a len = true) : liesL s' b s a less = true := by
  unfold liesL at hL
  rw [Bool.and_eq_true, decide_eq_true_eq] at hL
  obtain ⟨h1, h2, h3⟩ := hL
  have hn : maskO s' b len ≠ none := fun e => by rw [e] at h1; cases h1
  obtain ⟨g0, g1⟩ := maskO_of hn
  rw [maskO_some g0 g1, maskO_some h0 h, outO_some, outO_some] at h2 h3
  have h2' : s' = s := h2
  subst h2'
  have h3' : mskL b len = mskL a len := h3
  refine lies_self l0 (by omega) ?_
  rw [← mskL_less hb yb l1, ← mskL_less ha ya l1, h3']
end Go.Proofs.Ytjdenhkicikfkaa.adC
