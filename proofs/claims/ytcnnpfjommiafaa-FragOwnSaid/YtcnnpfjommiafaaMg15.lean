/-
  4 texts of a proof, joined.
-/
import Derived.Test.YtcnnpfjommiafaaMg14
import Derived.Maps.OwnSet
import Derived.DeepKeys4
import Derived.Test.YtcnnpfjommiafaaMg3
import Derived.Test.YtcnnpfjommiafaaMg7
import Derived.Test.YtcnnpfjommiafaaMg2

/-
  Names of packets in pieces: their cells, as keys of a map; the map by names.
-/
namespace Go.Proofs.Ytcnnpfjommiafaa.fgC
open Go.ChangeShapes Go.WideShapes Go.ChangeAt Go.RowKit
open Go.Proofs.Ytcnnpfjommiafaa.memC Go.Proofs.Ytcnnpfjommiafaa.genC Go.Proofs.Ytcnnpfjommiafaa.butC Go.Proofs.Ytcnnpfjommiafaa.freeC Go.Proofs.Ytcnnpfjommiafaa.adC
open Go.Proofs.Ytcnnpfjommiafaa.pkC (Pkt pktL pktV pktT adrC)
open Go.Maps (Keyed)
set_option linter.unusedVariables false
/-- a name -/
structure Nm where
  s : Bool
  a : List Int
  t : Bool
  b : List Int
  id : Int
  proto : Int
def nmOf (p : Pkt) : Nm := ⟨p.s, p.a, p.t, p.b, p.id, p.proto⟩
def nmL (m : Nm) : List Value := adrC m.s m.a ++ (adrC m.t m.b ++ [.int .u32 m.id, .int .u8 m.proto])
def nmV (m : Nm) : Array Value := (nmL m).toArray
structure Nm.Ok (m : Nm) : Prop where
  la : m.a.length = 16
  lb : m.b.length = 16
  ya : ∀ x ∈ m.a, Byte x
  yb : ∀ x ∈ m.b, Byte x
  id : 0 ≤ m.id ∧ m.id ≤ 4294967295
  proto : Byte m.proto
theorem nm_ok {p : Pkt} (h : p.Ok) : (nmOf p).Ok := ⟨h.la, h.lb, h.ya, h.yb, h.id, h.proto⟩
theorem nmL_len {m : Nm} (h : m.Ok) : (nmL m).length = 36 := by
  unfold nmL
  rw [List.length_append, List.length_append, pkC.adrC_len h.la, pkC.adrC_len h.lb]
  rfl
theorem nmV_size {m : Nm} (h : m.Ok) : (nmV m).size = 36 := by unfold nmV; rw [List.size_toArray, nmL_len h]
theorem nm_one (m : Nm) : ∀ u ∈ nmL m, u.oneCell' = true := by
  intro u hu
  have ha : ∀ (s : Bool) (b : List Int), ∀ u ∈ adrC s b, u.oneCell' = true := fun s b u hu => by
    rcases List.mem_cons.1 hu with rfl | hu
    · rfl
    · obtain ⟨z, -, rfl⟩ := List.mem_map.1 hu; rfl
  unfold nmL at hu
  rcases List.mem_append.1 hu with hu | hu
  · exact ha _ _ u hu
  · rcases List.mem_append.1 hu with hu | hu
    · exact ha _ _ u hu
    · simp at hu
      rcases hu with rfl | rfl <;> rfl
theorem sameN_nm {p q : Pkt} : sameN p q = true ↔ nmOf p = nmOf q := by
  unfold sameN nmOf
  rw [decide_eq_true_iff]
  constructor
  · rintro ⟨h1, h2, h3, h4, h5, h6⟩; rw [h1, h2, h3, h4, h5, h6]
  · intro h; injection h with h1 h2 h3 h4 h5 h6; exact ⟨h1, h2, h3, h4, h5, h6⟩
theorem nat_list_inj : ∀ {a b : List Int}, a.map (Value.int .u8) = b.map (Value.int .u8) → a = b
  | [], [], _ => rfl
  | [], _ :: _, h => by cases h
  | _ :: _, [], h => by cases h
  | x :: r, y :: r', h => by
    rw [List.map_cons, List.map_cons] at h
    injection h with h1 h2
    injection h1 with _ h1
    rw [h1, nat_list_inj h2]
theorem nmL_inj {m m' : Nm} (h : m.Ok) (h' : m'.Ok) (e : nmL m = nmL m') : m = m' := by
  unfold nmL at e
  obtain ⟨e1, e2⟩ := List.append_inj e (by rw [pkC.adrC_len h.la, pkC.adrC_len h'.la])
  obtain ⟨e3, e4⟩ := List.append_inj e2 (by rw [pkC.adrC_len h.lb, pkC.adrC_len h'.lb])
  unfold adrC at e1 e3
  injection e1 with e1 e1'
  injection e3 with e3 e3'
  injection e1 with e1
  injection e3 with e3
  injection e4 with e4 e4'
  injection e4 with _ e4
  injection e4' with e4'
  injection e4' with _ e4'
  cases m; cases m'
  simp only at e1 e1' e3 e3' e4 e4'
  rw [e1, nat_list_inj e1', e3, nat_list_inj e3', e4, e4']
/-! ### names as keys -/
theorem byte_wf {z : Int} (h : Byte z) : (Lit.int .u8 z).wf = true := by
  unfold Byte at h
  simp [Lit.wf, IntKind.min, IntKind.max, IntKind.signed, IntKind.bits]
  omega
theorem key_byte (d : Nat) {z : Int} (h : Byte z) : Try.prog.keyLits (d + 1) 5 [.int .u8 z] = some [.int .u8 z] := by
  unfold Program.keyLits
  rw [Try.underlying5]
  simp [byte_wf h]
theorem key_word (d : Nat) {z : Int} (h : 0 ≤ z ∧ z ≤ 4294967295) : Try.prog.keyLits (d + 1) 25 [.int .u32 z] = some [.int .u32 z] := by
  unfold Program.keyLits
  rw [Try.underlying25]
  have : (Lit.int .u32 z).wf = true := by
    simp [Lit.wf, IntKind.min, IntKind.max, IntKind.signed, IntKind.bits]
    omega
  simp [this]
theorem key_bool (d : Nat) (x : Bool) : Try.prog.keyLits (d + 1) 4 [.bool x] = some [.bool x] := by
  unfold Program.keyLits
  rw [Try.underlying4]
theorem cells_byte : Try.prog.cellsOf 5 = 1 := by kernel_rfl
theorem cells_arr : Try.prog.cellsOf 22 = 16 := by kernel_rfl
theorem key_arr (d : Nat) {b : List Int} (hl : b.length = 16) (h : ∀ x ∈ b, Byte x) : ∃ l, Try.prog.keyLits (d + 2) 22 (b.map (Value.int .u8)) = some l := by
  unfold Program.keyLits
  rw [Try.underlying22]
  simp only [List.length_map, hl, cells_arr, if_true, cells_byte, Nat.mul_one]
  have hm : ∀ (is : List Nat), (∀ i ∈ is, i < 16) → ∃ l, is.mapM (fun i => Try.prog.keyLits (d + 1) 5 (((b.map (Value.int .u8)).drop i).take 1)) = some l := by
    intro is
    induction is with
    | nil => intro _; exact ⟨[], rfl⟩
    | cons i r ih =>
      intro hi
      obtain ⟨l, hl2⟩ := ih fun j hj => hi j (by simp [hj])
      have h16 : i < b.length := by rw [hl]; exact hi i (by simp)
      have e : ((b.map (Value.int .u8)).drop i).take 1 = [.int .u8 b[i]] := by
        rw [List.drop_eq_getElem_cons (by rw [List.length_map]; exact h16)]
        simp
      refine ⟨[.int .u8 b[i]] :: l, ?_⟩
      rw [List.mapM_cons, e, key_byte d (h _ (List.getElem_mem h16)), hl2]
      rfl
  obtain ⟨l, hl2⟩ := hm (List.range 16) (fun i hi => List.mem_range.1 hi)
  exact ⟨l.flatten, by rw [hl2]; rfl⟩
theorem fields_addr : Try.prog.underlying 24 = some (.struct (Try.prog.fieldsOf 24)) := by simp [Program.fieldsOf, Try.underlying24]
theorem fields_addr_list : (Try.prog.fieldsOf 24).toList.map (fun f => (f.type, f.offset, Try.prog.cellsOf f.type)) = [(4, 0, 1), (22, 1, 16)] := by kernel_rfl
theorem fields_addr_all : (Try.prog.fieldsOf 24).all (·.name != "_") = true := by kernel_rfl
theorem cells_addr : Try.prog.cellsOf 24 = 17 := by kernel_rfl
theorem mapM_fields (d : Nat) (cs : List Value) : ∀ (fs : List Field), fs.mapM (fun f => Try.prog.keyLits d f.type ((cs.drop f.offset).take (Try.prog.cellsOf f.type))) = (fs.map (fun f => (f.type, f.offset, Try.prog.cellsOf f.type))).mapM (fun x => Try.prog.keyLits d x.1 ((cs.drop x.2.1).take x.2.2))
  | [] => rfl
  | f :: r => by
    rw [List.mapM_cons, List.map_cons, List.mapM_cons, mapM_fields d cs r]
theorem key_addr (d : Nat) (s : Bool) {b : List Int} (hl : b.length = 16) (h : ∀ x ∈ b, Byte x) : ∃ l, Try.prog.keyLits (d + 3) 24 (adrC s b) = some l := by
  unfold Program.keyLits
  rw [fields_addr]
  simp only [pkC.adrC_len hl, cells_addr, fields_addr_all, true_and, if_true]
  obtain ⟨l, hl2⟩ := key_arr d hl h
  have e1 : ((adrC s b).drop 0).take 1 = [.bool s] := rfl
  have e2 : ((adrC s b).drop 1).take 16 = b.map (Value.int .u8) := by
    show (b.map (Value.int .u8)).take 16 = _
    rw [List.take_of_length_le (by rw [List.length_map, hl]; exact Nat.le_refl _)]
  refine ⟨([[.bool s], l]).flatten, ?_⟩
  rw [mapM_fields, fields_addr_list, List.mapM_cons]
  simp only [e1]
  rw [key_bool, List.mapM_cons]
  simp only [e2]
  rw [hl2]
  rfl
theorem fields_nm : Try.prog.underlying 72 = some (.struct (Try.prog.fieldsOf 72)) := by simp [Program.fieldsOf, Try.underlying72]
theorem fields_nm_list : (Try.prog.fieldsOf 72).toList.map (fun f => (f.type, f.offset, Try.prog.cellsOf f.type)) = [(24, 0, 17), (24, 17, 17), (25, 34, 1), (5, 35, 1)] := by kernel_rfl
theorem fields_nm_all : (Try.prog.fieldsOf 72).all (·.name != "_") = true := by kernel_rfl
theorem cells_nm : Try.prog.cellsOf 72 = 36 := by kernel_rfl
theorem key_nm (d : Nat) {m : Nm} (h : m.Ok) : ∃ l, Try.prog.keyLits (d + 4) 72 (nmL m) = some l := by
  unfold Program.keyLits
  rw [fields_nm]
  simp only [nmL_len h, cells_nm, fields_nm_all, true_and, if_true]
  obtain ⟨l1, hl1⟩ := key_addr d m.s h.la h.ya
  obtain ⟨l2, hl2⟩ := key_addr d m.t h.lb h.yb
  have n1 := pkC.adrC_len (s := m.s) h.la
  have n2 := pkC.adrC_len (s := m.t) h.lb
  have e1 : ((nmL m).drop 0).take 17 = adrC m.s m.a := by
    unfold nmL
    rw [List.drop_zero, List.take_append_of_le_length (by omega), List.take_of_length_le (by omega)]
  have e2 : ((nmL m).drop 17).take 17 = adrC m.t m.b := by
    unfold nmL
    rw [List.drop_append_of_le_length (by omega), List.drop_of_length_le (by omega), List.nil_append, List.take_append_of_le_length (by omega), List.take_of_length_le (by omega)]
  have e34 : (nmL m).drop 34 = [.int .u32 m.id, .int .u8 m.proto] := by
    unfold nmL
    rw [show 34 = 17 + 17 from rfl, ← List.drop_drop, List.drop_append_of_le_length (by omega), List.drop_of_length_le (l := adrC m.s m.a) (by omega), List.nil_append, List.drop_append_of_le_length (by omega), List.drop_of_length_le (by omega), List.nil_append]
  have e3 : ((nmL m).drop 34).take 1 = [.int .u32 m.id] := by rw [e34]; rfl
  have e4 : ((nmL m).drop 35).take 1 = [.int .u8 m.proto] := by
    rw [show 35 = 34 + 1 from rfl, ← List.drop_drop, e34]; rfl
  refine ⟨([l1, l2, [.int .u32 m.id], [.int .u8 m.proto]]).flatten, ?_⟩
  rw [mapM_fields, fields_nm_list, List.mapM_cons]
  simp only [e1]
  rw [hl1, List.mapM_cons]
  simp only [e2]
  rw [hl2, List.mapM_cons]
  simp only [e3]
  rw [key_word (d + 2) h.id, List.mapM_cons]
  simp only [e4]
  rw [key_byte (d + 2) h.proto]
  rfl
theorem nm_keyed : Keyed Try.prog 72 := Keyed.of_law (deep_law (m := 4) (by decide) (by kernel_rfl) (by kernel_rfl) (by rw [fields_nm]))
theorem nm_types : ∃ d, Try.prog.types.size + 1 = d + 4 := ⟨Try.prog.types.size - 3, by
  have : 4 ≤ Try.prog.types.size := by
    have h : decide (4 ≤ Try.prog.types.size) = true := by kernel_rfl
    exact of_decide_eq_true h
  omega⟩
theorem nm_key {m : Nm} (h : m.Ok) : ∃ l, keyOf Try.prog 72 (.agg (nmV m)) = some l := by
  obtain ⟨d, hd⟩ := nm_types
  obtain ⟨l, hl⟩ := key_nm d h
  unfold keyOf
  rw [fields_nm]
  have h1 : Try.prog.keyType 72 = true := by kernel_rfl
  have h2 : (Value.agg (nmV m)).formed Try.prog 72 = true := by
    unfold Value.formed
    rw [fields_nm]
    simp only [nmV_size h, cells_nm]
    rfl
  have h3 : (Value.agg (nmV m)).cells.toList = nmL m := by simp [Value.cells, nmV]
  simp only [h1, h2, Bool.and_self, if_true, h3, hd, hl]
  exact ⟨_, rfl⟩
end Go.Proofs.Ytcnnpfjommiafaa.fgC

/-
  A map by names: looked up, put, deleted.
-/
namespace Go.Proofs.Ytcnnpfjommiafaa.fgC
open Go.ChangeShapes Go.WideShapes Go.ChangeAt Go.RowKit
open Go.Proofs.Ytcnnpfjommiafaa.memC Go.Proofs.Ytcnnpfjommiafaa.genC Go.Proofs.Ytcnnpfjommiafaa.butC Go.Proofs.Ytcnnpfjommiafaa.freeC Go.Proofs.Ytcnnpfjommiafaa.adC
open Go.Proofs.Ytcnnpfjommiafaa.pkC (Pkt pktL pktV pktT adrC)
open Go.Maps (Keyed)
open Go.ChangeMaps Go.MapKept
set_option linter.unusedVariables false
def ptr (q : Nat) : Value := .pointer (some ⟨q, 0, none⟩)
/-- block b is a map of just these -/
def MapAt (w : World) (b : Nat) (L : List (Nm × Nat)) : Prop := ∃ es clock, w.heap[b]? = some (.map es clock) ∧ es.toList.map (fun e => (e.key, e.val)) = L.map fun x => (.agg (nmV x.1), ptr x.2)
section
variable {w w' : World} {b : Nat} {L : List (Nm × Nat)} {m : Nm} {q : Nat}
theorem MapAt.lt (h : MapAt w b L) : b < w.heap.size := by
  obtain ⟨es, clock, hb, -⟩ := h
  exact (Array.getElem?_eq_some_iff.1 hb).1
theorem MapAt.same (h : MapAt w b L) (he : w'.heap[b]? = w.heap[b]?) : MapAt w' b L := by
  obtain ⟨es, clock, hb, h2⟩ := h
  exact ⟨es, clock, he.trans hb, h2⟩
theorem MapAt.made (w : World) : MapAt (w.alloc (.map #[] 0)) w.heap.size [] := ⟨#[], 0, heap_alloc_new _ _, rfl⟩
theorem nmV_inj {m m' : Nm} (h : m.Ok) (h' : m'.Ok) (e : nmV m = nmV m') : m = m' := nmL_inj h h' (by unfold nmV at e; exact congrArg Array.toList e)
set_option maxRecDepth 100000 in
theorem MapAt.find {es : Array MapEntry} {clock : Nat} (h : w.heap[b]? = some (.map es clock)) (h2 : es.toList.map (fun e => (e.key, e.val)) = L.map fun x => (.agg (nmV x.1), ptr x.2)) (hok : ∀ x ∈ L, x.1.Ok) (hm : m.Ok) :
    ((Instr.findKey 72 (.agg (nmV m)) es.toList).run Try.prog w = .ok none w ∧ ∀ x ∈ L, x.1 ≠ m) ∨
    ∃ j q, (Instr.findKey 72 (.agg (nmV m)) es.toList).run Try.prog w = .ok (some (j, ptr q)) w ∧ L[j]? = some (m, q) := by
  obtain ⟨l, hl⟩ := nm_key hm
  have hat : ∀ (j : Nat) (e : MapEntry), es.toList[j]? = some e → ∃ x, L[j]? = some x ∧ e.key = .agg (nmV x.1) ∧ e.val = ptr x.2 := fun j e he => by
    have h3 := congrArg (fun l => l[j]?) h2
    simp only [List.getElem?_map, he, Option.map_some] at h3
    cases hx : L[j]? with
    | none => rw [hx] at h3; cases h3
    | some x =>
      rw [hx] at h3
      injection h3 with h3
      injection h3 with h4 h5
      exact ⟨x, rfl, h4, h5⟩
  have hks : ∀ e ∈ es.toList, ∃ l, keyOf Try.prog 72 e.key = some l := fun e he => by
    obtain ⟨j, hj⟩ := List.mem_iff_getElem?.1 he
    obtain ⟨x, hx, hk, -⟩ := hat j e hj
    rw [hk]
    exact nm_key (hok x (List.mem_of_getElem? hx))
  rcases nm_keyed.find w hl es.toList hks with ⟨h1, hn⟩ | ⟨j, e, h1, hj, hk⟩
  · refine .inl ⟨h1, fun x hx e => ?_⟩
    obtain ⟨j, hj⟩ := List.mem_iff_getElem?.1 hx
    have h3 := congrArg (fun l => l[j]?) h2
    simp only [List.getElem?_map, hj, Option.map_some] at h3
    cases he : es.toList[j]? with
    | none => rw [he] at h3; cases h3
    | some y =>
      rw [he] at h3
      injection h3 with h3
      injection h3 with h4 h5
      exact hn y (List.mem_of_getElem? he) (by rw [h4, e])
  · obtain ⟨x, hx, hk2, hv⟩ := hat j e hj
    refine .inr ⟨j, x.2, by rw [h1, hv], ?_⟩
    rw [hk] at hk2
    injection hk2 with hk2
    have := nmV_inj hm (hok x (List.mem_of_getElem? hx)) hk2
    rw [hx, this]
set_option maxRecDepth 100000 in
theorem nodup_at {x y : Nm × Nat} {i j : Nat} (hnd : (L.map (·.1)).Nodup) (hi : L[i]? = some x) (hj : L[j]? = some y) (e : x.1 = y.1) : i = j := by
  have hi2 : (L.map (·.1))[i]? = some x.1 := by rw [List.getElem?_map, hi]; rfl
  have hj2 : (L.map (·.1))[j]? = some x.1 := by rw [List.getElem?_map, hj, e]; rfl
  have h1 := (List.getElem?_eq_some_iff.1 hi2).1
  exact (List.getElem?_inj h1 hnd).1 (hi2.trans hj2.symm)
set_option maxRecDepth 100000 in
theorem run_look_none (h : MapAt w b L) (hok : ∀ x ∈ L, x.1.Ok) (hm : m.Ok) (hn : ∀ x ∈ L, x.1 ≠ m) : (Instr.lookup 55 (.map (some b)) (.agg (nmV m)) true).run Try.prog w = .ok (.tuple #[.pointer none, .bool false]) w := by
  obtain ⟨es, clock, hb, h2⟩ := h
  obtain ⟨l, hl⟩ := nm_key hm
  have hz : (zeroValue 73).run Try.prog w = .ok (.pointer none) w := Try.zeroValue73 w
  rcases MapAt.find hb h2 hok hm with ⟨h1, -⟩ | ⟨j, q, -, hj⟩
  · simp [Instr.lookup, run_underlying Try.underlying55, MapKept.run_getObj_map hb, nm_keyed.check w _ hl, h1, hz, Result.andThen]
  · exact absurd rfl (hn _ (List.mem_of_getElem? hj))
set_option maxRecDepth 100000 in
theorem run_look_some {i : Nat} (h : MapAt w b L) (hok : ∀ x ∈ L, x.1.Ok) (hm : m.Ok) (hnd : (L.map (·.1)).Nodup) (hi : L[i]? = some (m, q)) : (Instr.lookup 55 (.map (some b)) (.agg (nmV m)) true).run Try.prog w = .ok (.tuple #[ptr q, .bool true]) w := by
  obtain ⟨es, clock, hb, h2⟩ := h
  obtain ⟨l, hl⟩ := nm_key hm
  rcases MapAt.find hb h2 hok hm with ⟨-, hn⟩ | ⟨j, q', h1, hj⟩
  · exact absurd rfl (hn _ (List.mem_of_getElem? hi))
  · have e := nodup_at hnd hi hj rfl
    subst e
    rw [hi] at hj
    injection hj with hj
    injection hj with _ hj
    subst hj
    simp [Instr.lookup, run_underlying Try.underlying55, MapKept.run_getObj_map hb, nm_keyed.check w _ hl, h1, Result.andThen]
set_option maxRecDepth 100000 in
theorem run_put (h : MapAt w b L) (hok : ∀ x ∈ L, x.1.Ok) (hm : m.Ok) (hn : ∀ x ∈ L, x.1 ≠ m) (q : Nat) : ∃ w', (Instr.mapUpdate 55 (.map (some b)) (.agg (nmV m)) (ptr q)).run Try.prog w = .ok () w' ∧ MapAt w' b (L ++ [(m, q)]) ∧ w.grownBy w' (some b) ∧ w'.heap.size = w.heap.size := by
  obtain ⟨es, clock, hb, h2⟩ := h
  obtain ⟨l, hl⟩ := nm_key hm
  rcases MapAt.find hb h2 hok hm with ⟨h1, -⟩ | ⟨j, q', -, hj⟩
  · refine ⟨setBlock w b (.map (es.push ⟨.agg (nmV m), ptr q, clock⟩) (clock + 1)), ?_, ⟨es.push ⟨.agg (nmV m), ptr q, clock⟩, clock + 1, heap_setBlock_same hb _, ?_⟩, ⟨rfl, rfl, rfl, by simp [setBlock], fun i _ hi => heap_setBlock_other hb _ (fun e => hi (by rw [e]))⟩, by simp [setBlock]⟩
    · simp [Instr.mapUpdate, run_underlying Try.underlying55, MapKept.run_getObj_map hb, nm_keyed.check w false hl, h1, MapKept.run_setObj_map _ hb, Result.andThen, setBlock]
    · rw [Array.toList_push, List.map_append, h2, List.map_append]
      rfl
  · exact absurd rfl (hn _ (List.mem_of_getElem? hj))
set_option maxRecDepth 100000 in
theorem run_del {i : Nat} (h : MapAt w b L) (hok : ∀ x ∈ L, x.1.Ok) (hm : m.Ok) (hnd : (L.map (·.1)).Nodup) (hi : L[i]? = some (m, q)) (ty : TypeId) : ∃ w', (Builtin.delete_ #[55, 72] ty #[.map (some b), .agg (nmV m)]).run Try.prog w = .ok (.tuple #[]) w' ∧ MapAt w' b (L.eraseIdx i) ∧ w.grownBy w' (some b) ∧ w'.heap.size = w.heap.size := by
  obtain ⟨es, clock, hb, h2⟩ := h
  obtain ⟨l, hl⟩ := nm_key hm
  rcases MapAt.find hb h2 hok hm with ⟨-, hn⟩ | ⟨j, q', h1, hj⟩
  · exact absurd rfl (hn _ (List.mem_of_getElem? hi))
  · have e := nodup_at hnd hi hj rfl
    subst e
    have hjl : i < es.toList.length := by
      have h3 := congrArg List.length h2
      rw [List.length_map, List.length_map] at h3
      rw [h3]
      exact (List.getElem?_eq_some_iff.1 hi).1
    have hsub : (es.eraseIdxIfInBounds i).toList = es.toList.eraseIdx i := by
      unfold Array.eraseIdxIfInBounds
      rw [dif_pos (by simpa using hjl)]
      simp
    refine ⟨setBlock w b (.map (es.eraseIdxIfInBounds i) clock), ?_, ⟨es.eraseIdxIfInBounds i, clock, heap_setBlock_same hb _, ?_⟩, ⟨rfl, rfl, rfl, by simp [setBlock], fun i _ hi => heap_setBlock_other hb _ (fun e => hi (by rw [e]))⟩, by simp [setBlock]⟩
    · simp [Builtin.delete_, run_underlying Try.underlying55, MapKept.run_getObj_map hb, nm_keyed.check w _ hl, h1, MapKept.run_setObj_map _ hb, Result.andThen, setBlock]
    · rw [hsub, map_eraseIdx, h2, map_eraseIdx]
theorem run_mlen (h : MapAt w b L) (ty : TypeId) : (Builtin.len_ #[55] ty #[.map (some b)]).run Try.prog w = .ok (.int .i64 (L.length : Nat)) w := by
  obtain ⟨es, clock, hb, h2⟩ := h
  have e : es.size = L.length := by
    have h3 := congrArg List.length h2
    rw [List.length_map, List.length_map] at h3
    simpa using h3
  simp [Builtin.len_, run_underlying Try.underlying55, MapKept.run_getObj_map hb, Result.andThen, e, goInt]
end
end Go.Proofs.Ytcnnpfjommiafaa.fgC

/-
  Rows of names; which one is the name; one is taken out.
-/
namespace Go.Proofs.Ytcnnpfjommiafaa.fgC
open Go.ChangeShapes Go.WideShapes Go.ChangeAt Go.RowKit
open Go.Proofs.Ytcnnpfjommiafaa.memC Go.Proofs.Ytcnnpfjommiafaa.genC Go.Proofs.Ytcnnpfjommiafaa.butC Go.Proofs.Ytcnnpfjommiafaa.freeC Go.Proofs.Ytcnnpfjommiafaa.adC
open Go.Proofs.Ytcnnpfjommiafaa.pkC (Pkt pktL pktV pktT adrC)
open Go.Maps (Keyed)
set_option linter.unusedVariables false
def flatN (ms : List Nm) : List Value := ms.flatMap nmL
theorem flatN_len : ∀ {ms : List Nm}, (∀ x ∈ ms, x.Ok) → (flatN ms).length = ms.length * 36
  | [], _ => rfl
  | e :: r, h => by
    have ih := flatN_len (ms := r) fun x hx => h x (by simp [hx])
    unfold flatN at ih ⊢
    rw [List.flatMap_cons, List.length_append, ih, nmL_len (h e (by simp)), List.length_cons, Nat.succ_mul]; omega
theorem flatN_append (a b : List Nm) : flatN (a ++ b) = flatN a ++ flatN b := List.flatMap_append
theorem flatN_one (ms : List Nm) : ∀ u ∈ flatN ms, u.oneCell' = true := fun u hu => by
  obtain ⟨e, -, h⟩ := List.mem_flatMap.1 hu
  exact nm_one e u h
theorem flatN_at : ∀ {ms : List Nm} (h : ∀ e ∈ ms, e.Ok) (i : Nat) (e : Nm) (j : Nat), ms[i]? = some e → j < 36 → (flatN ms)[i * 36 + j]? = (nmL e)[j]?
  | [], h, i, e, j, he, hj => by cases he
  | f :: r, h, 0, e, j, he, hj => by
    simp at he; subst he
    unfold flatN
    rw [List.flatMap_cons, Nat.zero_mul, Nat.zero_add, List.getElem?_append_left (by rw [nmL_len (h f (by simp))]; exact hj)]
  | f :: r, h, i + 1, e, j, he, hj => by
    have hl := nmL_len (h f (by simp))
    have ih := flatN_at (ms := r) (fun x hx => h x (by simp [hx])) i e j (by simpa using he) hj
    unfold flatN at ih ⊢
    rw [List.flatMap_cons, Nat.succ_mul, List.getElem?_append_right (by rw [hl]; omega), hl]
    rw [show i * 36 + 36 + j - 36 = i * 36 + j by omega]
    exact ih
theorem flatN_set : ∀ {ms : List Nm} (h : ∀ e ∈ ms, e.Ok) (i : Nat) (m : Nm) (sp : List Value), i < ms.length → (flatN ms ++ sp).take (i * 36) ++ nmL m ++ (flatN ms ++ sp).drop (i * 36 + 36) = flatN (ms.set i m) ++ sp
  | [], h, i, m, sp, hi => absurd hi (Nat.not_lt_zero _)
  | f :: r, h, 0, m, sp, hi => by
    have hl := nmL_len (h f (by simp))
    unfold flatN
    rw [List.set_cons_zero, List.flatMap_cons, List.flatMap_cons, Nat.zero_mul, List.take_zero, List.nil_append, Nat.zero_add, List.append_assoc, List.append_assoc, List.drop_append_of_le_length (by omega), List.drop_of_length_le (by omega), List.nil_append]
  | f :: r, h, i + 1, m, sp, hi => by
    have hl := nmL_len (h f (by simp))
    have ih := flatN_set (ms := r) (fun x hx => h x (by simp [hx])) i m sp (by simpa using hi)
    unfold flatN at ih ⊢
    have t1 : ∀ (T : List Value) (k : Nat), (nmL f ++ T).take (k + 36) = nmL f ++ T.take k := fun T k => by
      rw [List.take_append, List.take_of_length_le (by omega), hl, Nat.add_sub_cancel]
    have t2 : ∀ (T : List Value) (k : Nat), (nmL f ++ T).drop (k + 36) = T.drop k := fun T k => by
      rw [List.drop_append, List.drop_of_length_le (by omega), hl, Nat.add_sub_cancel, List.nil_append]
    rw [List.set_cons_succ, List.flatMap_cons, List.flatMap_cons, Nat.succ_mul]
    simp only [List.append_assoc] at ih ⊢
    rw [t1, t2, List.append_assoc, ih]
/-- a row of names in block g, with what is spare -/
def NRow (w : World) (g : Nat) (ms : List Nm) (sp : List Value) : Prop := w.heap[g]? = some (.cells (flatN ms ++ sp).toArray 72 (0, 0))
theorem NRow.cells {w : World} {g : Nat} {ms : List Nm} {sp : List Value} (h : NRow w g ms sp) (hok : ∀ x ∈ ms, x.Ok) {i : Nat} {m : Nm} (hi : ms[i]? = some m) : ∀ j v, (nmL m)[j]? = some v → w.cell? ⟨g, i * 36 + j, none⟩ = some v := by
  intro j v hv
  have hm := hok m (List.mem_of_getElem? hi)
  have hj : j < 36 := by
    have := (List.getElem?_eq_some_iff.1 hv).1
    rwa [nmL_len hm] at this
  rw [cell_of_row w g (i * 36 + j) _ _ (0, 0) h, List.getElem?_toArray, List.getElem?_append_left]
  · rw [flatN_at hok i m j hi hj]; exact hv
  · rw [flatN_len hok]
    have := (List.getElem?_eq_some_iff.1 hi).1
    have : (i + 1) * 36 ≤ ms.length * 36 := Nat.mul_le_mul_right _ (by omega)
    rw [Nat.succ_mul] at this
    omega
theorem nm_info {m : Nm} (h : m.Ok) : (Try.prog.info? 72).map (·.size) = some (nmL m).length := by rw [nmL_len h]; kernel_rfl
theorem nm_infoV {m : Nm} (h : m.Ok) : (Try.prog.info? 72).map (·.size) = some (nmV m).size := by rw [nmV_size h]; kernel_rfl
theorem nm_underlying : ∃ d, Try.prog.underlying 72 = some d ∧ (match d with | .struct _ | .array _ _ => true | _ => false) = true := ⟨_, Try.underlying72, rfl⟩
/-! ### '==' of names -/
def eqM (a b : Nm) : Bool := decide (a.s = b.s ∧ a.a = b.a ∧ a.t = b.t ∧ a.b = b.b ∧ a.id = b.id ∧ a.proto = b.proto)
theorem eqM_iff {a b : Nm} : eqM a b = true ↔ a = b := by
  unfold eqM
  rw [decide_eq_true_iff]
  constructor
  · rintro ⟨h1, h2, h3, h4, h5, h6⟩; cases a; cases b; simp only at h1 h2 h3 h4 h5 h6; rw [h1, h2, h3, h4, h5, h6]
  · rintro rfl; exact ⟨rfl, rfl, rfl, rfl, rfl, rfl⟩
theorem eqM_ne {a b : Nm} (h : a ≠ b) : eqM a b = false := by
  cases e : eqM a b
  · rfl
  · exact absurd (eqM_iff.1 e) h
theorem nm_guard : Try.prog.eqGuardType Try.prog.depth 72 = false := by kernel_rfl
set_option maxRecDepth 100000 in
theorem eqM_run {a b : Nm} (ha : a.Ok) (hb : b.Ok) (w : World) : (Op.equalIn 10000 72 (.agg (nmV a)) (.agg (nmV b))).run Try.prog w = .ok (eqM a b) w := by
  obtain ⟨la, hla⟩ := nm_key ha
  obtain ⟨lb, hlb⟩ := nm_key hb
  obtain ⟨r, hr, hiff⟩ := run_equal_deep w (m := 4) (by omega) (by kernel_rfl) (by rw [fields_nm]) hla hlb
  have e : r = eqM a b := by
    cases hq : eqM a b
    · cases r
      · rfl
      · have e1 := hiff.1 rfl
        subst e1
        have := nm_keyed.inj hla hlb
        injection this with this
        have := nmV_inj ha hb this
        rw [eqM_iff.2 this] at hq
        cases hq
    · have := eqM_iff.1 hq
      subst this
      rw [hla] at hlb
      injection hlb with hlb
      exact hiff.2 hlb
  rw [← e]
  exact hr
set_option maxRecDepth 100000 in
set_option maxHeartbeats 4000000 in
/-- the function that tells the one to be taken out -/
theorem isit_any (x m : Nm) (bx : Nat) (w : World) (hx : x.Ok) (hm : m.Ok) (R : w.heap[bx]? = some (.cells (nmV m) 72 (0, 0))) :
    Calls Try.prog 51 #[.agg (nmV x), .pointer (some ⟨bx, 0, none⟩)] w (Ret w (.bool (eqM x m))) := by
  obtain ⟨W, hW⟩ : ∃ W, W = w.alloc (.cells (nmV x) 72) := ⟨_, rfl⟩
  have R0 := Lib.hid (show W.heap[w.heap.size]? = some (.cells (nmV x) 72 (0, 0)) by rw [hW]; exact heap_alloc_new _ _)
  have HB := Lib.hid (show Below w.heap.size w W by rw [hW]; exact alloc_below _ _)
  have R1 := Lib.hid (show W.heap[bx]? = some (.cells (nmV m) 72 (0, 0)) from (HB.out.block _ (Array.getElem?_eq_some_iff.1 R).1).trans R)
  have I0 := Lib.hid (nm_infoV hx)
  have I1 := Lib.hid (nm_infoV hm)
  have EQ := Lib.hid (fun w' => eqM_run hx hm w')
  generalize nmV x = X at *
  generalize nmV m = M at *
  generalize eqM x m = V at *
  clear R hx hm
  go_enter Try.func51, Try.ntmps51
  go_upto_region 1 with fail
  rw [← hW]
  clear hW
  go_wp2_with (first
    | (refine wpList_load_row rfl 72 (.tmp 2) rfl (w.heap.size) rfl _ _ _ _ R0.out Try.underlying72 rfl I0.out ?_)
    | (refine wpList_load_row rfl 72 (.tmp 1) rfl bx rfl _ _ _ _ R1.out Try.underlying72 rfl I1.out ?_)
    | (with_reducible refine atC.at_bin .eql 72 ?_; refine adC.wpList_runG (by kernel_rfl) _ (adC.eq_run (T := 72) rfl (by kernel_rfl) (by kernel_rfl) (EQ.out _) nm_guard) ?_))
  go_ret
  exact ⟨rfl, HB.out⟩
set_option maxRecDepth 100000 in
set_option maxHeartbeats 4000000 in
/-- which name it is -/
theorem index_any (g bx n c idx : Nat) (ms : List Nm) (sp : List Value) (m : Nm) (w : World) (hr : NRow w g ms sp) (hok : ∀ x ∈ ms, x.Ok) (hm : m.Ok) (R : w.heap[bx]? = some (.cells (nmV m) 72 (0, 0))) (hn : ms.length = n) (hn2 : n ≤ 1000) (hnc : n ≤ c)
    (hi : ms[idx]? = some m) (hf : ∀ k x, k < idx → ms[k]? = some x → x ≠ m) :
    Calls Try.prog 62 #[.slice (some ⟨g, 0, none⟩) n c, .func (.func 51) #[] #[.pointer (some ⟨bx, 0, none⟩)]] w (Ret w (.int .i64 (idx : Nat))) := by
  have HR := Lib.hid hr
  have HM := Lib.hid hm
  have HOK := Lib.hid hok
  have HF := Lib.hid hf
  have HI := Lib.hid hi
  have HX := Lib.hid R
  have HN := Lib.hid (show ms.length = n ∧ n ≤ 1000 ∧ n ≤ c ∧ idx < n from ⟨hn, hn2, hnc, by rw [← hn]; exact (List.getElem?_eq_some_iff.1 hi).1⟩)
  clear hr hm hok hf hi R hn hn2 hnc
  go_enter Try.func62, Try.ntmps62
  go_upto_region 2 with fail
  go_loopw [8] (fun u wr => ∃ k : Nat, u = .int .i64 k ∧ k ≤ idx ∧ Below w.heap.size w wr) (fun u _ => 2000 - (intOf u).toNat)
  case atStart => exact ⟨0, rfl, Nat.zero_le _, Below.refl _ _⟩
  case round =>
    obtain ⟨k, rfl, hk, hb⟩ := hrel
    have hkn : k < n := by have := HN.out; omega
    have q : (k : Int) < (n : Int) := by omega
    have w1 : IntKind.i64.wrap ((k : Int) + 1) = (k : Int) + 1 := IntWalk.i64_in _ (by have := HN.out; omega)
    obtain ⟨x, hx⟩ : ∃ x, ms[k]? = some x := ⟨_, List.getElem?_eq_getElem (by rw [HN.out.1]; exact hkn)⟩
    have hxo := HOK.out x (List.mem_of_getElem? hx)
    have CL := Lib.hid (show ∀ j v, (nmL x)[j]? = some v → wr.cell? ⟨g, k * 36 + j, none⟩ = some v from NRow.cells ((hb.block _ (Array.getElem?_eq_some_iff.1 HR.out).1).trans HR.out) HOK.out hx)
    have IX := Lib.hid (nm_info hxo)
    have EQ := Lib.hid (isit_any x m bx wr hxo HM.out ((hb.block _ (Array.getElem?_eq_some_iff.1 HX.out).1).trans HX.out))
    have HB := Lib.hid hb
    have HK := Lib.hid (show k ≤ idx from hk)
    have ev : (nmL x).toArray = nmV x := rfl
    by_cases hki : k = idx
    · have hxm : x = m := by subst hki; rw [HI.out] at hx; injection hx with hx; exact hx.symm
      have e1 : eqM x m = true := eqM_iff.2 hxm
      rw [e1] at EQ
      subst hki
      clear hb hk hkn hx hxo hxm e1 w1
      go_wp2_with (first
        | (refine partC.wpList_load_part rfl 72 (.tmp 14) rfl g (k * 36) rfl (nmL x) _ CL.out Try.underlying72 rfl IX.out ?_; rw [ev])
        | (refine EQ.out.mono ?_; rintro e w2 ⟨rfl, hb2⟩; have HB2 := Lib.hid hb2; clear hb2))
      go_ret
      exact ⟨rfl, HB.out.trans (HB2.out.mono HB.out.size)⟩
    · have hxm : x ≠ m := HF.out k x (by omega) hx
      rw [eqM_ne hxm] at EQ
      have HK2 := Lib.hid (show k + 1 ≤ idx by omega)
      clear hb hk hkn hx hxo hxm hki
      go_wp2_with (first
        | (refine partC.wpList_load_part rfl 72 (.tmp 14) rfl g (k * 36) rfl (nmL x) _ CL.out Try.underlying72 rfl IX.out ?_; rw [ev])
        | (refine EQ.out.mono ?_; rintro e w2 ⟨rfl, hb2⟩; have HB2 := Lib.hid hb2; clear hb2))
      go_roundw
      case rel => exact ⟨k + 1, by simp, HK2.out, HB.out.trans (HB2.out.mono HB.out.size)⟩
      case measure => have := HN.out; have := HK.out; simp [intOf]; omega
end Go.Proofs.Ytcnnpfjommiafaa.fgC

/-
  A name is taken out of a row of names.
-/
namespace Go.Proofs.Ytcnnpfjommiafaa.fgC
open Go.ChangeShapes Go.WideShapes Go.ChangeAt Go.RowKit
open Go.Proofs.Ytcnnpfjommiafaa.memC Go.Proofs.Ytcnnpfjommiafaa.genC Go.Proofs.Ytcnnpfjommiafaa.butC Go.Proofs.Ytcnnpfjommiafaa.freeC Go.Proofs.Ytcnnpfjommiafaa.adC
open Go.Proofs.Ytcnnpfjommiafaa.pkC (Pkt pktL pktV pktT adrC)
set_option linter.unusedVariables false
def zNm : Nm := ⟨false, List.replicate 16 0, false, List.replicate 16 0, 0, 0⟩
theorem zNm_ok : zNm.Ok := ⟨rfl, rfl, fun x hx => by rw [List.eq_of_mem_replicate hx]; unfold Byte; omega, fun x hx => by rw [List.eq_of_mem_replicate hx]; unfold Byte; omega, by unfold zNm; decide, by unfold Byte zNm; decide⟩
theorem zNm_info : (Try.prog.info? 72).map (·.zero) = some (some (.agg (nmV zNm))) := by kernel_rfl
theorem zeroNm (w : World) : (zeroValue 72).run Try.prog w = .ok (.agg (nmV zNm)) w := by
  obtain ⟨i, hi, hz⟩ := Option.map_eq_some_iff.1 zNm_info
  simp [zeroValue, typeInfo, hi, hz]
theorem nm_oneV (m : Nm) : (nmV m).all (·.oneCell') = true := by
  unfold nmV
  rw [List.all_toArray]
  exact List.all_eq_true.2 (nm_one m)
theorem zeroCells1 (C : Array Value) : (Builtin.zeroCells C 1).toList = C.toList := by
  apply List.ext_getElem
  · simp [Builtin.zeroCells]
  · intro i h1 h2
    simp [Builtin.zeroCells] at h1 ⊢
    rw [Nat.mod_eq_of_lt h1, getElem!_pos C i h1]
/-- clear of one name -/
theorem wpList_clear1 {ops : Array Oper} {rest : List Oper} {o : Oper} {a : Act} {w : World} {Q : Exit → Act → World → Prop} (hgd : o.guard = none) (x : Operand) (ho : o.op = .call { callee := .builtin .clear, args := #[x], argTypes := #[56] })
    (g q c : Nat) (hx : a.eval x = .slice (some ⟨g, q, none⟩) 1 c) (t : TypeId) (old : Array Value) (hg : w.heap[g]? = some (.cells old t (0, 0))) (hq : q + 36 ≤ old.size)
    (h : wpList Try.prog ops Q rest (a.put o.dst (.tuple #[])) (w.setRow g (old.toList.take q ++ nmL zNm ++ old.toList.drop (q + 36)).toArray)) : wpList Try.prog ops Q (o :: rest) a w := by
  have hl : (nmV zNm).toList.length = 36 := by unfold nmV; exact nmL_len zNm_ok
  have hst := run_storeCells_at (P := Try.prog) g q t (nmV zNm).toList 0 old w hg (by rw [hl]; omega) (fun v hv => nm_one zNm v hv)
  rw [hl] at hst
  refine wpList_plain hgd fun K hK => ?_
  unfold Oper.wp execOp
  have hz := zeroNm w
  have hc : (Value.agg (nmV zNm)).cells = nmV zNm := rfl
  simp only [ho, resolve, invoke, builtin, Builtin.clear_, Sem.run_bind, Sem.run_pure, Result.andThen_ok, List.map_toArray, List.map_cons, List.map_nil, hx]
  simp [run_underlying Try.underlying56, hz, hc, zeroCells1, Result.andThen_ok]
  simp only [Nat.add_zero] at hst
  rw [hst]
  exact hK _ _ h
theorem setRow_at (w : World) (g : Nat) (cs : Array Value) (old : Array Value) (T : TypeId) (hg : w.heap[g]? = some (.cells old T (0, 0))) : (w.setRow g cs).heap[g]? = some (.cells cs T (0, 0)) := setRow_heap _ _ _ _ _ _ hg
theorem size_nm : (Try.prog.info? 72).map (·.size) = some 36 := by kernel_rfl
theorem cut_nm (g n c i : Nat) (h1 : i < n) (h2 : n = i + 1) (h3 : n ≤ c) (w : World) : (Instr.slice 56 (.slice (some ⟨g, 0, none⟩) n c) (some (.int .i64 (i : Int))) none none).run Try.prog w = .ok (.slice (some ⟨g, i * 36, none⟩) 1 (c - i)) w := by
  obtain ⟨t, ht, hs⟩ := Option.map_eq_some_iff.1 size_nm
  have k1 : (i : Int) ≤ (n : Int) := by omega
  have k3 : ¬ c = i := by omega
  have hsz : ∀ w, (sizeOf 72).run Try.prog w = .ok 36 w := fun w => by simp [sizeOf, typeInfo, ht, hs]
  subst h2
  simp [Instr.slice, run_underlying Try.underlying56, Instr.sliceBounds, Instr.sliceBound, asIntOf, hsz, k3, Result.andThen]
  rw [memC.add_plain, Nat.zero_add]
theorem cut_to (g n c i : Nat) (h1 : i ≤ c) (w : World) : (Instr.slice 56 (.slice (some ⟨g, 0, none⟩) n c) none (some (.int .i64 (i : Int))) none).run Try.prog w = .ok (.slice (some ⟨g, 0, none⟩) i c) w := by
  obtain ⟨t, ht, hs⟩ := Option.map_eq_some_iff.1 size_nm
  have k1 : (i : Int) ≤ (c : Int) := by omega
  have hsz : ∀ w, (sizeOf 72).run Try.prog w = .ok 36 w := fun w => by simp [sizeOf, typeInfo, ht, hs]
  simp [Instr.slice, run_underlying Try.underlying56, Instr.sliceBounds, Instr.sliceBound, asIntOf, h1, hsz, Result.andThen]
  intro _
  rw [memC.add_plain]
theorem erase_get {α : Type} {ms : List α} {idx k : Nat} : (ms.eraseIdx idx)[k]? = if k < idx then ms[k]? else ms[k + 1]? := List.getElem?_eraseIdx ..
set_option maxRecDepth 100000 in
set_option maxHeartbeats 8000000 in
theorem delete_any (g bx n c idx : Nat) (ms : List Nm) (sp : List Value) (m : Nm) (w : World) (hr : NRow w g ms sp) (hok : ∀ x ∈ ms, x.Ok) (hm : m.Ok) (R : w.heap[bx]? = some (.cells (nmV m) 72 (0, 0))) (hbx : bx ≠ g) (hn : ms.length = n) (hn2 : n ≤ 1000) (hnc : n ≤ c) (hc : c ≤ 9223372036854775807)
    (hi : ms[idx]? = some m) (hnd : ms.Nodup) :
    Calls Try.prog 50 #[.slice (some ⟨g, 0, none⟩) n c, .func (.func 51) #[] #[.pointer (some ⟨bx, 0, none⟩)]] w
      fun e w' => e = .returned (.slice (some ⟨g, 0, none⟩) (n - 1) c) ∧ (∃ sp', NRow w' g (ms.eraseIdx idx) sp' ∧ sp'.length = sp.length + 36) ∧ But g w w' := by
  have hil : idx < n := by rw [← hn]; exact (List.getElem?_eq_some_iff.1 hi).1
  have hother : ∀ k x, ms[k]? = some x → k ≠ idx → x ≠ m := fun k x hx hk e => by
    subst e
    exact hk ((List.getElem?_inj (List.getElem?_eq_some_iff.1 hx).1 hnd).1 (hx.trans hi.symm))
  have IX := Lib.hid (index_any g bx n c idx ms sp m w hr hok hm R hn hn2 hnc hi (fun k x hk hx => hother k x hx (by omega)))
  have HR := Lib.hid hr
  have HM := Lib.hid hm
  have HOK := Lib.hid hok
  have HO := Lib.hid hother
  have HX := Lib.hid R
  have HBX := Lib.hid hbx
  have HN := Lib.hid (show ms.length = n ∧ n ≤ 1000 ∧ n ≤ c ∧ c ≤ 9223372036854775807 ∧ idx < n from ⟨hn, hn2, hnc, hc, hil⟩)
  have e1 : ¬ (idx : Int) = -1 := by omega
  have e1b : ((idx : Int) == -1) = false := beq_eq_false_iff_ne.2 e1
  have w1 : IntKind.i64.wrap ((idx : Int) + 1) = (idx : Int) + 1 := IntWalk.i64_in _ (by omega)
  have hzv := zeroNm
  clear hr hm hok hother R hbx hn hn2 hnc hc hil hi hnd
  go_enter Try.func50, Try.ntmps50
  go_upto_region 5 with (go_at_call 62; refine IX.out.mono ?_; rintro e w2 ⟨rfl, hb⟩; have HB0 := Lib.hid hb; clear hb)
  clear e1 e1b w1 IX
  go_loopw [5, 6] (fun u v wr => ∃ (i j : Nat) (C : List Nm), u = .int .i64 i ∧ v = .int .i64 j ∧ j = i + 1 ∧ idx ≤ i ∧ j ≤ n ∧ NRow wr g C sp ∧ C.length = n ∧ (∀ x ∈ C, x.Ok) ∧ (∀ k, k < i → C[k]? = (ms.eraseIdx idx)[k]?) ∧ (∀ k, j ≤ k → C[k]? = ms[k]?) ∧ But g w wr) (fun u _ _ => 2000 - (intOf u).toNat)
  case atStart =>
    have hn := HN.out
    refine ⟨idx, idx + 1, ms, rfl, rfl, rfl, Nat.le_refl _, by omega, (HB0.out.block _ (Array.getElem?_eq_some_iff.1 HR.out).1).trans HR.out, hn.1, HOK.out, fun k hk => ?_, fun k _ => rfl, But.below HB0.out⟩
    rw [erase_get, if_pos hk]
  case round =>
    obtain ⟨i, j, C, rfl, rfl, hj, hii, hjn, hrow, hCl, hCo, hC1, hC2, hb⟩ := hrel
    have HJ := Lib.hid (show j = i + 1 ∧ idx ≤ i ∧ j ≤ n ∧ C.length = n from ⟨hj, hii, hjn, hCl⟩)
    have HRW := Lib.hid hrow
    have HCO := Lib.hid hCo
    have HC1 := Lib.hid hC1
    have HC2 := Lib.hid hC2
    have HB := Lib.hid hb
    by_cases hjn2 : j = n
    · -- the end
      have q : ¬ (j : Int) < (n : Int) := by omega
      have cut1 : ∀ w', (Instr.slice 56 (.slice (some ⟨g, 0, none⟩) n c) (some (.int .i64 (i : Int))) none none).run Try.prog w' = .ok (.slice (some ⟨g, i * 36, none⟩) 1 (c - i)) w' := fun w' => cut_nm g n c i (by have := HN.out; omega) (by omega) (by have := HN.out; omega) w'
      have cut2 : ∀ w', (Instr.slice 56 (.slice (some ⟨g, 0, none⟩) n c) none (some (.int .i64 (i : Int))) none).run Try.prog w' = .ok (.slice (some ⟨g, 0, none⟩) i c) w' := fun w' => cut_to g n c i (by have := HN.out; omega) w'
      have hin : i = n - 1 := by omega
      have hlen := flatN_len hCo
      have hs : i * 36 + 36 ≤ ((flatN C ++ sp).toArray).size := by
        rw [List.size_toArray, List.length_append, hlen, hCl]
        have : (i + 1) * 36 ≤ n * 36 := Nat.mul_le_mul_right _ (by omega)
        rw [Nat.succ_mul] at this
        omega
      have HS := Lib.hid hs
      have HIN := Lib.hid hin
      clear hin hjn2 hjn hj hii hrow hCl hCo hC1 hC2 hb hlen hs hzv
      go_wp2_with (refine wpList_clear1 rfl (.tmp 38) rfl g (i * 36) (c - i) rfl _ _ HRW.out HS.out ?_)
      go_ret
      have hin := HIN.out
      have hset := flatN_set HCO.out i zNm sp (by have := HJ.out; omega)
      refine ⟨(show Ending.returned (Value.slice (some ⟨g, 0, none⟩) i c) = .returned (.slice (some ⟨g, 0, none⟩) (n - 1) c) by rw [hin]), ⟨nmL zNm ++ sp, ?_, by rw [List.length_append, nmL_len zNm_ok]; omega⟩, HB.out.setRow _⟩
      refine (setRow_at wr g _ _ _ HRW.out).trans ?_
      have e8 : C.set i zNm = ms.eraseIdx idx ++ [zNm] := by
        apply List.ext_getElem?
        intro k
        have hj9 := HJ.out
        have hel : (ms.eraseIdx idx).length = n - 1 := by rw [List.length_eraseIdx]; have := HN.out; rw [if_pos (by omega)]; omega
        rw [List.getElem?_set]
        by_cases hk : i = k
        · subst hk
          rw [if_pos rfl, if_pos (by omega), List.getElem?_append_right (by omega), hel, show i - (n - 1) = 0 by omega]
          rfl
        · rw [if_neg hk]
          by_cases hk2 : k < i
          · rw [HC1.out k hk2, List.getElem?_append_left (by omega)]
          · rw [List.getElem?_eq_none (by omega), List.getElem?_eq_none (by rw [List.length_append]; simp; omega)]
      have e7 : flatN [zNm] = nmL zNm := by unfold flatN; simp
      rw [e8, flatN_append, e7, List.append_assoc (flatN (ms.eraseIdx idx))] at hset
      rw [← List.append_assoc, hset]
    · have q : (j : Int) < (n : Int) := by omega
      obtain ⟨x, hx⟩ : ∃ x, ms[j]? = some x := ⟨_, List.getElem?_eq_getElem (by rw [HN.out.1]; omega)⟩
      have hxo := HOK.out x (List.mem_of_getElem? hx)
      have hCx : C[j]? = some x := (hC2 j (Nat.le_refl _)).trans hx
      have CL := Lib.hid (show ∀ k v, (nmL x)[k]? = some v → wr.cell? ⟨g, j * 36 + k, none⟩ = some v from hrow.cells hCo hCx)
      have IXl := Lib.hid (nm_info hxo)
      have IXv := Lib.hid (nm_infoV hxo)
      have IZ := Lib.hid (show (nmV zNm).size = (nmV x).size by rw [nmV_size zNm_ok, nmV_size hxo])
      have O1 := Lib.hid (nm_oneV x)
      have HXO := Lib.hid hxo
      have HXS := Lib.hid (nmV_size hxo)
      have hne : x ≠ m := HO.out j x hx (by omega)
      have ev : (nmL x).toArray = nmV x := rfl
      obtain ⟨W, hW⟩ : ∃ W, W = wr.alloc (.cells (nmV x) 72) := ⟨_, rfl⟩
      have RB := Lib.hid (show W.heap[wr.heap.size]? = some (.cells (nmV x) 72 (0, 0)) by rw [hW]; exact heap_alloc_new _ _)
      have BW := Lib.hid (show Below wr.heap.size wr W by rw [hW]; exact alloc_below _ _)
      have EQ := Lib.hid (isit_any x m bx W hxo HM.out ((BW.out.block _ (by have := (Array.getElem?_eq_some_iff.1 HX.out).1; have := hb.size; omega)).trans ((hb.block _ (Array.getElem?_eq_some_iff.1 HX.out).1 HBX.out).trans HX.out)))
      rw [eqM_ne hne] at EQ
      have w1 : IntKind.i64.wrap ((i : Int) + 1) = (i : Int) + 1 := IntWalk.i64_in _ (by have := HN.out; omega)
      have w2' : IntKind.i64.wrap ((j : Int) + 1) = (j : Int) + 1 := IntWalk.i64_in _ (by have := HN.out; omega)
      have HW := Lib.hid hW
      have hiN : (i : Int) < (n : Int) := by omega
      have HXX := Lib.hid (show C[j]? = some x ∧ ms[j]? = some x from ⟨hCx, hx⟩)
      clear hj hii hrow hCl hCo hC1 hC2 hb hx hxo hCx hne hW
      go_upto_region 8 with (first
        | (refine partC.wpList_load_part rfl 72 (.tmp 24) rfl g (j * 36) rfl (nmL x) _ CL.out Try.underlying72 rfl IXl.out ?_; rw [ev])
        | (refine wpList_store_row rfl 72 (.tmp 7) (.tmp 25) rfl wr.heap.size (nmV x) rfl rfl _ _ (heap_alloc_new _ _) IXv.out IZ.out O1.out ?_; rw [World.setRow_alloc_new, ← HW.out]))
      generalize hX : nmV x = X at *
      go_upto_region 9 with (first
        | (refine wpList_load_row rfl 72 (.tmp 7) rfl wr.heap.size rfl _ _ _ _ RB.out Try.underlying72 rfl IXv.out ?_)
        | (refine EQ.out.mono ?_; rintro e w3 ⟨rfl, hb2⟩
           have HB3 := Lib.hid hb2
           have RB3 := Lib.hid ((hb2.block _ (Array.getElem?_eq_some_iff.1 RB.out).1).trans RB.out)
           have RW3 := Lib.hid (show NRow w3 g C sp from (hb2.block _ (by have := (Array.getElem?_eq_some_iff.1 HRW.out).1; have := BW.out.size; omega)).trans ((BW.out.block _ (Array.getElem?_eq_some_iff.1 HRW.out).1).trans HRW.out))
           clear hb2))
      have HSZ := Lib.hid (show i * 36 + X.size ≤ ((flatN C ++ sp).toArray).size by
        rw [HXS.out, List.size_toArray, List.length_append, flatN_len HCO.out, HJ.out.2.2.2]
        have : (i + 1) * 36 ≤ n * 36 := Nat.mul_le_mul_right _ (by have := HJ.out; omega)
        rw [Nat.succ_mul] at this
        omega)
      go_wp2_with (first
        | (refine wpList_load_row rfl 72 (.tmp 7) rfl wr.heap.size rfl _ _ _ _ RB3.out Try.underlying72 rfl IXv.out ?_)
        | (refine partC.wpList_store_part rfl 72 (.tmp 33) (.tmp 32) rfl g (i * 36) X rfl rfl _ _ RW3.out IXv.out HSZ.out O1.out ?_))
      go_roundw
      case rel =>
        have hj9 := HJ.out
        have hset := flatN_set HCO.out i x sp (by omega)
        have e9 : (flatN C ++ sp).toArray.toList = flatN C ++ sp := rfl
        have eX : X.toList = nmL x := by rw [← hX]; rfl
        refine ⟨i + 1, j + 1, C.set i x, by simp, by simp, by omega, by omega, by omega, ?_, by rw [List.length_set]; omega, fun y hy => ?_, fun k hk => ?_, fun k hk => ?_, ((HB.out.trans (But.below BW.out)).trans (But.below HB3.out)).setRow _⟩
        · refine (setRow_at w3 g _ _ _ RW3.out).trans ?_
          rw [eX, HXS.out, ← List.append_assoc, hset]
        · rcases List.mem_or_eq_of_mem_set hy with h | h
          · exact HCO.out y h
          · rw [h]; exact HXO.out
        · rw [List.getElem?_set]
          by_cases hik : i = k
          · subst hik
            rw [if_pos rfl, if_pos (by omega), erase_get, if_neg (by omega), ← hj9.1]
            exact HXX.out.2.symm
          · rw [if_neg hik]; exact HC1.out k (by omega)
        · rw [List.getElem?_set, if_neg (by omega)]; exact HC2.out k (by omega)
      case measure => have := HN.out; have := HJ.out; simp [intOf]; omega
end Go.Proofs.Ytcnnpfjommiafaa.fgC
