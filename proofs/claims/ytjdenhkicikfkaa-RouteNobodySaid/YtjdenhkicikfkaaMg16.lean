/-
  1 texts of a proof, joined.
-/
import Derived.Test.YtjdenhkicikfkaaMg14
import Derived.Test.YtjdenhkicikfkaaMg2
import Derived.Maps.RangeRun

/-
  Prefixes as keys of the table's map; the map of ways: looked up, put, deleted.
-/
namespace Go.Proofs.Ytjdenhkicikfkaa.rtC
open Go.ChangeShapes Go.WideShapes Go.ChangeAt Go.RowKit
open Go.Proofs.Ytjdenhkicikfkaa.memC Go.Proofs.Ytjdenhkicikfkaa.genC Go.Proofs.Ytjdenhkicikfkaa.butC Go.Proofs.Ytjdenhkicikfkaa.freeC Go.Proofs.Ytjdenhkicikfkaa.adC
open Go.Maps (Keyed)
open Go.ChangeMaps Go.MapKept
set_option linter.unusedVariables false
/-- a prefix -/
structure Ky where
  s : Bool
  a : List Int
  len : Int
structure Ky.Ok (k : Ky) : Prop where
  la : k.a.length = 16
  ya : ∀ x ∈ k.a, Byte x
  len : -9223372036854775808 ≤ k.len ∧ k.len ≤ 9223372036854775807
def kyOf (y : Wy) : Ky := ⟨y.s, y.a, y.len⟩
def kyL (k : Ky) : List Value := adrK k.s k.a ++ [.int .i64 k.len]
def kyV (k : Ky) : Array Value := (kyL k).toArray
theorem kyOf_ok {y : Wy} (h : y.Ok) : (kyOf y).Ok := ⟨h.la, h.ya, h.len⟩
theorem sameK_ky {y z : Wy} : sameK y z = true ↔ kyOf y = kyOf z := by
  rw [sameK_iff]
  unfold kyOf
  constructor
  · rintro ⟨h1, h2, h3⟩; rw [h1, h2, h3]
  · intro h; injection h with h1 h2 h3; exact ⟨h1, h2, h3⟩
theorem sameK_not {y z : Wy} : sameK y z = false ↔ kyOf y ≠ kyOf z := by
  cases h : sameK y z
  · exact ⟨fun _ e => (by rw [sameK_ky.2 e] at h; cases h), fun _ => rfl⟩
  · exact ⟨fun e => (by cases e), fun e => absurd (sameK_ky.1 h) e⟩
theorem kyL_len {k : Ky} (h : k.Ok) : (kyL k).length = 18 := by
  unfold kyL
  rw [List.length_append, adrK_len h.la]
  rfl
theorem kyV_size {k : Ky} (h : k.Ok) : (kyV k).size = 18 := by unfold kyV; rw [List.size_toArray, kyL_len h]
theorem ky_one (k : Ky) : ∀ u ∈ kyL k, u.oneCell' = true := by
  intro u hu
  unfold kyL at hu
  rcases List.mem_append.1 hu with hu | hu
  · exact adrK_one _ _ u hu
  · obtain rfl := List.mem_singleton.1 hu; rfl
theorem ky_ones (k : Ky) : (kyV k).all (·.oneCell') = true := by
  unfold kyV
  rw [List.all_toArray]
  exact List.all_eq_true.2 (ky_one k)
theorem kyV_inj {k k' : Ky} (h : k.Ok) (h' : k'.Ok) (e : kyV k = kyV k') : k = k' := by
  have e : kyL k = kyL k' := by unfold kyV at e; exact congrArg Array.toList e
  unfold kyL at e
  obtain ⟨e1, e2⟩ := List.append_inj e (by rw [adrK_len h.la, adrK_len h'.la])
  obtain ⟨q1, q2⟩ := adrK_inj e1
  injection e2 with e3 _
  injection e3 with _ e3
  cases k; cases k'
  simp only at q1 q2 e3
  rw [q1, q2, e3]
theorem ky_info : (Try.prog.info? 55).map (·.size) = some 18 := by kernel_rfl
theorem kyV_info {k : Ky} (h : k.Ok) : (Try.prog.info? 55).map (·.size) = some (kyV k).size := by rw [kyV_size h]; exact ky_info
theorem kyL_info {k : Ky} (h : k.Ok) : (Try.prog.info? 55).map (·.size) = some (kyL k).length := by rw [kyL_len h]; exact ky_info
def zKy : Ky := ⟨false, zs 16, 0⟩
theorem zKy_ok : zKy.Ok := ⟨zs_len 16, zs_byte 16, by unfold zKy; simp⟩
set_option maxRecDepth 100000 in
theorem zKy_info : (Try.prog.info? 55).map (·.zero) = some (some (.agg (kyV zKy))) := by kernel_rfl
theorem zeroKy (w : World) : (zeroValue 55).run Try.prog w = .ok (.agg (kyV zKy)) w := by
  obtain ⟨i, hi, hz⟩ := Option.map_eq_some_iff.1 zKy_info
  simp [zeroValue, typeInfo, hi, hz]
set_option maxRecDepth 100000 in
theorem ky_built0 (s : Bool) (a0 a1 a2 a3 a4 a5 a6 a7 a8 a9 a10 a11 a12 a13 a14 a15 ln : Int) : Try.prog.built 55 [(0, .agg (adrK s [a0, a1, a2, a3, a4, a5, a6, a7, a8, a9, a10, a11, a12, a13, a14, a15]).toArray), (1, .int .i64 ln)] = some (kyV ⟨s, [a0, a1, a2, a3, a4, a5, a6, a7, a8, a9, a10, a11, a12, a13, a14, a15], ln⟩) := by kernel_rfl
theorem ky_built {k : Ky} (h : k.Ok) : Try.prog.built 55 [(0, .agg (adrK k.s k.a).toArray), (1, .int .i64 k.len)] = some (kyV k) := by
  obtain ⟨a0, a1, a2, a3, a4, a5, a6, a7, a8, a9, a10, a11, a12, a13, a14, a15, ha⟩ := len16 h.la
  cases k
  simp only at ha ⊢
  rw [ha]
  exact ky_built0 _ _ _ _ _ _ _ _ _ _ _ _ _ _ _ _ _ _
/-! ### prefixes as keys -/
theorem fields_ky : Try.prog.underlying 55 = some (.struct (Try.prog.fieldsOf 55)) := by simp [Program.fieldsOf, Try.underlying55]
theorem fields_ky_list : (Try.prog.fieldsOf 55).toList.map (fun f => (f.type, f.offset, Try.prog.cellsOf f.type)) = [(25, 0, 17), (3, 17, 1)] := by kernel_rfl
theorem fields_ky_all : (Try.prog.fieldsOf 55).all (·.name != "_") = true := by kernel_rfl
theorem cells_ky : Try.prog.cellsOf 55 = 18 := by kernel_rfl
theorem key_ky0 (d : Nat) {m : Ky} (h : m.Ok) : ∃ l, Try.prog.keyLits (d + 4) 55 (kyL m) = some l := by
  unfold Program.keyLits
  rw [fields_ky]
  simp only [kyL_len h, cells_ky, fields_ky_all, true_and, if_true]
  obtain ⟨l1, hl1⟩ := key_addr d m.s h.la h.ya
  have n1 := adrK_len (s := m.s) h.la
  have e1 : ((kyL m).drop 0).take 17 = adrK m.s m.a := by
    unfold kyL
    rw [List.drop_zero, List.take_append_of_le_length (by omega), List.take_of_length_le (by omega)]
  have e17 : (kyL m).drop 17 = [.int .i64 m.len] := by
    unfold kyL
    rw [List.drop_append_of_le_length (by omega), List.drop_of_length_le (by omega), List.nil_append]
  have e2 : ((kyL m).drop 17).take 1 = [.int .i64 m.len] := by rw [e17]; rfl
  refine ⟨([l1, [.int .i64 m.len]]).flatten, ?_⟩
  rw [mapM_fields, fields_ky_list, List.mapM_cons]
  simp only [e1]
  rw [hl1, List.mapM_cons]
  simp only [e2]
  rw [key_int (d + 2) h.len]
  rfl
theorem ky_keyed : Keyed Try.prog 55 := Keyed.of_law (deep_law (m := 4) (by decide) (by kernel_rfl) (by kernel_rfl) (by rw [fields_ky]))
theorem ky_key {m : Ky} (h : m.Ok) : ∃ l, keyOf Try.prog 55 (.agg (kyV m)) = some l := by
  obtain ⟨d, hd⟩ := wy_types
  obtain ⟨l, hl⟩ := key_ky0 d h
  unfold keyOf
  rw [fields_ky]
  have h1 : Try.prog.keyType 55 = true := by kernel_rfl
  have h2 : (Value.agg (kyV m)).formed Try.prog 55 = true := by
    unfold Value.formed
    rw [fields_ky]
    simp only [kyV_size h, cells_ky]
    rfl
  have h3 : (Value.agg (kyV m)).cells.toList = kyL m := by simp [Value.cells, kyV]
  simp only [h1, h2, Bool.and_self, if_true, h3, hd, hl]
  exact ⟨_, rfl⟩
/-! ### the map -/
def eG (e : MapEntry) : Value × Value × Nat := (e.key, e.val, e.born)
def tG (p : Nat × Wy) : Value × Value × Nat := (.agg (kyV (kyOf p.2)), .agg (wyV p.2), p.1)
/-- the entries are these ways, each with its stamp -/
structure Ents (es : Array MapEntry) (clock : Nat) (T : List (Nat × Wy)) : Prop where
  eq : es.toList.map eG = T.map tG
  lt : ∀ p ∈ T, p.1 < clock
  nd : (T.map (·.1)).Nodup
/-- block b is a map of just these -/
def MapW (w : World) (b : Nat) (L : List Wy) : Prop := ∃ es clock T, w.heap[b]? = some (.map es clock) ∧ Ents es clock T ∧ T.map (·.2) = L
section
variable {w w' : World} {b : Nat} {L : List Wy} {k : Ky} {y : Wy}
theorem Ents.at_ {es : Array MapEntry} {clock : Nat} {T : List (Nat × Wy)} (h : Ents es clock T) {j : Nat} {e : MapEntry} (he : es.toList[j]? = some e) : ∃ p, T[j]? = some p ∧ e.key = .agg (kyV (kyOf p.2)) ∧ e.val = .agg (wyV p.2) ∧ e.born = p.1 := by
  have h3 := congrArg (fun l => l[j]?) h.eq
  simp only [List.getElem?_map, he, Option.map_some] at h3
  cases hx : T[j]? with
  | none => rw [hx] at h3; cases h3
  | some p =>
    rw [hx] at h3
    injection h3 with h3
    injection h3 with h4 h5
    injection h5 with h5 h6
    exact ⟨p, rfl, h4, h5, h6⟩
theorem Ents.has {es : Array MapEntry} {clock : Nat} {T : List (Nat × Wy)} (h : Ents es clock T) {j : Nat} {p : Nat × Wy} (hp : T[j]? = some p) : ∃ e, es.toList[j]? = some e ∧ e.key = .agg (kyV (kyOf p.2)) := by
  have h3 := congrArg (fun l => l[j]?) h.eq
  simp only [List.getElem?_map, hp, Option.map_some] at h3
  cases he : es.toList[j]? with
  | none => rw [he] at h3; cases h3
  | some e =>
    rw [he] at h3
    injection h3 with h3
    injection h3 with h4 h5
    exact ⟨e, rfl, h4⟩
theorem Ents.size {es : Array MapEntry} {clock : Nat} {T : List (Nat × Wy)} (h : Ents es clock T) : es.toList.length = T.length := by
  have h3 := congrArg List.length h.eq
  rwa [List.length_map, List.length_map] at h3
theorem MapW.lt (h : MapW w b L) : b < w.heap.size := by
  obtain ⟨es, clock, T, hb, -⟩ := h
  exact (Array.getElem?_eq_some_iff.1 hb).1
theorem MapW.same (h : MapW w b L) (he : w'.heap[b]? = w.heap[b]?) : MapW w' b L := by
  obtain ⟨es, clock, T, hb, h2⟩ := h
  exact ⟨es, clock, T, he.trans hb, h2⟩
theorem MapW.made (w : World) : MapW (w.alloc (.map #[] 0)) w.heap.size [] := ⟨#[], 0, [], heap_alloc_new _ _, ⟨rfl, by simp, by simp⟩, rfl⟩
set_option maxRecDepth 100000 in
theorem Ents.find {es : Array MapEntry} {clock : Nat} {T : List (Nat × Wy)} (h2 : Ents es clock T) (hok : ∀ x ∈ T.map (·.2), x.Ok) (hm : k.Ok) (w : World) :
    ((Instr.findKey 55 (.agg (kyV k)) es.toList).run Try.prog w = .ok none w ∧ ∀ x ∈ T.map (·.2), kyOf x ≠ k) ∨
    ∃ j p, (Instr.findKey 55 (.agg (kyV k)) es.toList).run Try.prog w = .ok (some (j, .agg (wyV p.2))) w ∧ T[j]? = some p ∧ kyOf p.2 = k := by
  obtain ⟨l, hl⟩ := ky_key hm
  have hks : ∀ e ∈ es.toList, ∃ l, keyOf Try.prog 55 e.key = some l := fun e he => by
    obtain ⟨j, hj⟩ := List.mem_iff_getElem?.1 he
    obtain ⟨p, hp, hk, -⟩ := h2.at_ hj
    rw [hk]
    exact ky_key (kyOf_ok (hok p.2 (List.mem_map_of_mem (List.mem_of_getElem? hp))))
  rcases ky_keyed.find w hl es.toList hks with ⟨h1, hn⟩ | ⟨j, e, h1, hj, hk⟩
  · refine .inl ⟨h1, fun x hx e => ?_⟩
    obtain ⟨p, hp, rfl⟩ := List.mem_map.1 hx
    obtain ⟨j, hj⟩ := List.mem_iff_getElem?.1 hp
    obtain ⟨e1, he, hk⟩ := h2.has hj
    exact hn e1 (List.mem_of_getElem? he) (by rw [hk, e])
  · obtain ⟨p, hp, hk2, hv, -⟩ := h2.at_ hj
    refine .inr ⟨j, p, by rw [h1, hv], hp, ?_⟩
    rw [hk] at hk2
    injection hk2 with hk2
    exact (kyV_inj hm (kyOf_ok (hok p.2 (List.mem_map_of_mem (List.mem_of_getElem? hp)))) hk2).symm
set_option maxRecDepth 100000 in
theorem run_look_none (h : MapW w b L) (hok : ∀ x ∈ L, x.Ok) (hm : k.Ok) (hn : ∀ x ∈ L, kyOf x ≠ k) : (Instr.lookup 48 (.map (some b)) (.agg (kyV k)) true).run Try.prog w = .ok (.tuple #[.agg (wyV zWy), .bool false]) w := by
  obtain ⟨es, clock, T, hb, h2, rfl⟩ := h
  obtain ⟨l, hl⟩ := ky_key hm
  have hz := zeroWy w
  rcases h2.find hok hm w with ⟨h1, -⟩ | ⟨j, p, -, hj, hp⟩
  · simp [Instr.lookup, run_underlying Try.underlying48, MapKept.run_getObj_map hb, ky_keyed.check w _ hl, h1, hz, Result.andThen]
  · exact absurd hp (hn _ (List.mem_map_of_mem (List.mem_of_getElem? hj)))
/-- no two of one prefix -/
theorem same_way (hnd : L.Pairwise fun y z => sameK y z = false) {x z : Wy} (hx : x ∈ L) (hz : z ∈ L) (e : kyOf x = kyOf z) : x = z := mem_same hnd hx hz (sameK_ky.2 e)
set_option maxRecDepth 100000 in
theorem run_look_some (h : MapW w b L) (hok : ∀ x ∈ L, x.Ok) (hnd : L.Pairwise fun y z => sameK y z = false) (hy : y ∈ L) : (Instr.lookup 48 (.map (some b)) (.agg (kyV (kyOf y))) true).run Try.prog w = .ok (.tuple #[.agg (wyV y), .bool true]) w := by
  obtain ⟨es, clock, T, hb, h2, rfl⟩ := h
  have hm := kyOf_ok (hok y hy)
  obtain ⟨l, hl⟩ := ky_key hm
  rcases h2.find hok hm w with ⟨-, hn⟩ | ⟨j, p, h1, hj, hp⟩
  · exact absurd rfl (hn y hy)
  · have e := same_way hnd (List.mem_map_of_mem (List.mem_of_getElem? hj)) hy hp
    rw [e] at h1
    simp [Instr.lookup, run_underlying Try.underlying48, MapKept.run_getObj_map hb, ky_keyed.check w _ hl, h1, Result.andThen]
set_option maxRecDepth 100000 in
theorem run_put (h : MapW w b L) (hok : ∀ x ∈ L, x.Ok) (hy : y.Ok) (hn : ∀ x ∈ L, kyOf x ≠ kyOf y) : ∃ w', (Instr.mapUpdate 48 (.map (some b)) (.agg (kyV (kyOf y))) (.agg (wyV y))).run Try.prog w = .ok () w' ∧ MapW w' b (L ++ [y]) ∧ w.grownBy w' (some b) ∧ w'.heap.size = w.heap.size := by
  obtain ⟨es, clock, T, hb, h2, rfl⟩ := h
  obtain ⟨l, hl⟩ := ky_key (kyOf_ok hy)
  rcases h2.find hok (kyOf_ok hy) w with ⟨h1, -⟩ | ⟨j, p, -, hj, hp⟩
  · refine ⟨setBlock w b (.map (es.push ⟨.agg (kyV (kyOf y)), .agg (wyV y), clock⟩) (clock + 1)), ?_, ⟨es.push ⟨.agg (kyV (kyOf y)), .agg (wyV y), clock⟩, clock + 1, T ++ [(clock, y)], heap_setBlock_same hb _, ⟨?_, fun p hp => ?_, ?_⟩, by simp⟩, ⟨rfl, rfl, rfl, by simp [setBlock], fun i _ hi => heap_setBlock_other hb _ (fun e => hi (by rw [e]))⟩, by simp [setBlock]⟩
    · simp [Instr.mapUpdate, run_underlying Try.underlying48, MapKept.run_getObj_map hb, ky_keyed.check w false hl, h1, MapKept.run_setObj_map _ hb, Result.andThen, setBlock]
    · rw [Array.toList_push, List.map_append, h2.eq, List.map_append]
      rfl
    · rcases List.mem_append.1 hp with hp | hp
      · have := h2.lt p hp; omega
      · obtain rfl := List.mem_singleton.1 hp; exact Nat.lt_succ_self _
    · rw [List.map_append, List.nodup_append]
      refine ⟨h2.nd, by simp, fun q hq r hr => ?_⟩
      obtain ⟨p, hp, rfl⟩ := List.mem_map.1 hq
      have h5 := h2.lt p hp
      simp at hr
      omega
  · exact absurd hp (hn _ (List.mem_map_of_mem (List.mem_of_getElem? hj)))
theorem filter_erase : ∀ {L : List Wy} {j : Nat} {y : Wy}, L.Pairwise (fun y z => sameK y z = false) → L[j]? = some y → L.eraseIdx j = L.filter fun z => !sameK y z
  | [], _, _, _, h => by cases h
  | x :: r, 0, y, hp, h => by
    obtain rfl : x = y := by simpa using h
    rw [List.pairwise_cons] at hp
    rw [List.eraseIdx_cons_zero, List.filter_cons, sameK_self]
    simp only [Bool.not_true, Bool.false_eq_true, if_false]
    exact (List.filter_eq_self.2 fun z hz => by rw [hp.1 z hz]; rfl).symm
  | x :: r, j + 1, y, hp, h => by
    rw [List.pairwise_cons] at hp
    have h' : r[j]? = some y := by simpa using h
    rw [List.eraseIdx_cons_succ, filter_erase hp.2 h', List.filter_cons, sameK_symm, hp.1 y (List.mem_of_getElem? h')]
    rfl
set_option maxRecDepth 100000 in
theorem run_del (h : MapW w b L) (hok : ∀ x ∈ L, x.Ok) (hnd : L.Pairwise fun y z => sameK y z = false) (hy : y ∈ L) (ty : TypeId) : ∃ w', (Builtin.delete_ #[48, 55] ty #[.map (some b), .agg (kyV (kyOf y))]).run Try.prog w = .ok (.tuple #[]) w' ∧ MapW w' b (L.filter fun z => !sameK y z) ∧ w.grownBy w' (some b) ∧ w'.heap.size = w.heap.size := by
  obtain ⟨es, clock, T, hb, h2, rfl⟩ := h
  have hm := kyOf_ok (hok y hy)
  obtain ⟨l, hl⟩ := ky_key hm
  rcases h2.find hok hm w with ⟨-, hn⟩ | ⟨j, p, h1, hj, hp⟩
  · exact absurd rfl (hn y hy)
  · have e := same_way hnd (List.mem_map_of_mem (List.mem_of_getElem? hj)) hy hp
    have hjl : j < es.toList.length := by
      rw [h2.size]
      exact (List.getElem?_eq_some_iff.1 hj).1
    have hsub : (es.eraseIdxIfInBounds j).toList = es.toList.eraseIdx j := by
      unfold Array.eraseIdxIfInBounds
      rw [dif_pos (by simpa using hjl)]
      simp
    refine ⟨setBlock w b (.map (es.eraseIdxIfInBounds j) clock), ?_, ⟨es.eraseIdxIfInBounds j, clock, T.eraseIdx j, heap_setBlock_same hb _, ⟨?_, fun q hq => h2.lt q ((List.eraseIdx_sublist _ _).subset hq), ?_⟩, ?_⟩, ⟨rfl, rfl, rfl, by simp [setBlock], fun i _ hi => heap_setBlock_other hb _ (fun e => hi (by rw [e]))⟩, by simp [setBlock]⟩
    · simp [Builtin.delete_, run_underlying Try.underlying48, MapKept.run_getObj_map hb, ky_keyed.check w _ hl, h1, MapKept.run_setObj_map _ hb, Result.andThen, setBlock]
    · rw [hsub, map_eraseIdx, h2.eq, map_eraseIdx]
    · rw [map_eraseIdx]
      exact h2.nd.sublist (List.eraseIdx_sublist _ _)
    · rw [map_eraseIdx]
      exact filter_erase hnd (by rw [List.getElem?_map, hj, ← e]; rfl)
theorem run_mlen (h : MapW w b L) (ty : TypeId) : (Builtin.len_ #[48] ty #[.map (some b)]).run Try.prog w = .ok (.int .i64 (L.length : Nat)) w := by
  obtain ⟨es, clock, T, hb, h2, rfl⟩ := h
  have e : es.size = T.length := by have := h2.size; simpa using this
  simp [Builtin.len_, run_underlying Try.underlying48, MapKept.run_getObj_map hb, Result.andThen, e, goInt]
end
end Go.Proofs.Ytjdenhkicikfkaa.rtC
