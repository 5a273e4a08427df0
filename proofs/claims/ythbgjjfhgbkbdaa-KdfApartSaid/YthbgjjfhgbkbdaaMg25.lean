/-
  1 texts of a proof, joined.
-/
import Derived.Test.YthbgjjfhgbkbdaaMg24

/-
  Traffic keys: how two ends that came in are opened; the walk of KdfContexts.
-/
namespace Go.Proofs.Ythbgjjfhgbkbdaa.kdC
open Go.ChangeShapes Go.WideShapes Go.ChangeAt Go.RowKit
open Go.Proofs.Ythbgjjfhgbkbdaa.memC Go.Proofs.Ythbgjjfhgbkbdaa.genC Go.Proofs.Ythbgjjfhgbkbdaa.aesM Go.Proofs.Ythbgjjfhgbkbdaa.aesC Go.Proofs.Ythbgjjfhgbkbdaa.butC Go.Proofs.Ythbgjjfhgbkbdaa.freeC Go.Proofs.Ythbgjjfhgbkbdaa.partsC
set_option linter.unusedVariables false
section
variable {P : Program} {w : World} {r : Reach} {b0 : Nat} {t : TypeId}
theorem cell_u8 {ti : TypeId} {v : Value} (hi : P.underlying ti = some (.int .u8)) (h : Cell.okWide P w r b0 ti v) : ∃ z, v = .int .u8 z ∧ Byte z := by
  unfold Cell.okWide at h
  rw [hi] at h
  unfold Cell.ok at h
  rw [hi] at h
  cases v <;> simp at h
  obtain ⟨rfl, h1, h2⟩ := h
  exact ⟨_, rfl, by simpa [IntKind.min, IntKind.max, IntKind.signed, IntKind.bits] using h1, by simpa [IntKind.min, IntKind.max, IntKind.signed, IntKind.bits] using h2⟩
theorem cell_u16 {ti : TypeId} {v : Value} (hi : P.underlying ti = some (.int .u16)) (h : Cell.okWide P w r b0 ti v) : ∃ z, v = .int .u16 z ∧ 0 ≤ z ∧ z ≤ 65535 := by
  unfold Cell.okWide at h
  rw [hi] at h
  unfold Cell.ok at h
  rw [hi] at h
  cases v <;> simp at h
  obtain ⟨rfl, h1, h2⟩ := h
  exact ⟨_, rfl, by simpa [IntKind.min, IntKind.max, IntKind.signed, IntKind.bits] using h1, by simpa [IntKind.min, IntKind.max, IntKind.signed, IntKind.bits] using h2⟩
theorem cell_bool {tb : TypeId} {v : Value} (hb : P.underlying tb = some .bool) (h : Cell.okWide P w r b0 tb v) : ∃ s, v = .bool s := by
  unfold Cell.okWide at h
  rw [hb] at h
  unfold Cell.ok at h
  rw [hb] at h
  cases v <;> simp at h
  exact ⟨_, rfl⟩
/-- the number in a cell -/
def numOf : Option Value → Int
  | some (Value.int _ z) => z
  | _ => 0
/-- eighteen cells of which the first is a Bool, the others bytes, the last one a port -/
theorem end_of {l : List Value} (hl : l.length = 18) (h0 : ∃ s, l[0]? = some (.bool s)) (h1 : ∀ i, i < 16 → ∃ z, l[1 + i]? = some (.int .u8 z) ∧ Byte z) (h2 : ∃ p, l[17]? = some (.int .u16 p) ∧ 0 ≤ p ∧ p ≤ 65535) : ∃ s bs p, EndC l.toArray s bs p := by
  obtain ⟨s, hs⟩ := h0
  obtain ⟨p, hp, p0, p1⟩ := h2
  refine ⟨s, (List.range 16).map fun i => numOf l[1 + i]?, p, ⟨by simpa using hl, by simpa using hs, by simp, fun i hi => ?_, fun x hx => ?_, by simpa using hp, p0, p1⟩⟩
  · obtain ⟨z, hz, _⟩ := h1 i hi
    rw [List.getD_eq_getElem?_getD]
    simp [hi, hz, numOf]
  · obtain ⟨i, hi, rfl⟩ := List.mem_map.1 hx
    obtain ⟨z, hz, hb⟩ := h1 i (List.mem_range.1 hi)
    rw [hz]; exact hb
theorem end_row {l : List Value} {tb ti tp : TypeId} (hl : l.length = 18) (hb : P.underlying tb = some .bool) (hi : P.underlying ti = some (.int .u8)) (hp : P.underlying tp = some (.int .u16))
    (key : ∀ i, i < 18 → ∃ v u, l[i]? = some v ∧ ((tb :: List.replicate 16 ti) ++ [tp])[i]? = some u ∧ Cell.okWide P w r b0 u v) : ∃ s bs p, EndC l.toArray s bs p := by
  refine end_of hl ?_ (fun i hi' => ?_) ?_
  · obtain ⟨v, u, h1, h2, h3⟩ := key 0 (by decide)
    obtain rfl : tb = u := by simpa using h2
    obtain ⟨s, rfl⟩ := cell_bool hb h3
    exact ⟨s, h1⟩
  · obtain ⟨v, u, h1, h2, h3⟩ := key (1 + i) (by omega)
    have : u = ti := by
      rw [List.getElem?_append_left (by simp; omega), Nat.add_comm, List.getElem?_cons_succ, List.getElem?_replicate, if_pos hi'] at h2
      exact (Option.some.inj h2).symm
    subst this
    obtain ⟨z, rfl, hz⟩ := cell_u8 hi h3
    exact ⟨z, h1, hz⟩
  · obtain ⟨v, u, h1, h2, h3⟩ := key 17 (by decide)
    obtain rfl : tp = u := by simpa using h2
    obtain ⟨p, rfl, h4, h5⟩ := cell_u16 hp h3
    exact ⟨p, h1, h4, h5⟩
/-- two ends' cells -/
structure PairC (cs C1 C2 : Array Value) : Prop where
  size : cs.size = 36
  z1 : C1.size = 18
  z2 : C2.size = 18
  c1 : ∀ (j : Nat) (v : Value), C1[j]? = some v → cs[0 + j]? = some v
  c2 : ∀ (j : Nat) (v : Value), C2[j]? = some v → cs[18 + j]? = some v
theorem open_pair {fs : Array Field} {tb ti tp : TypeId} {v : Value} (ht : P.underlying t = some (.struct fs)) (hc : P.cellsOf t = 36) (hts : P.cellTypes P.depth t = some (((tb :: List.replicate 16 ti) ++ [tp]) ++ ((tb :: List.replicate 16 ti) ++ [tp])))
    (hb : P.underlying tb = some .bool) (hi : P.underlying ti = some (.int .u8)) (hp : P.underlying tp = some (.int .u16)) (hval : Value.okWide P w r b0 t v) :
    ∃ (cs C1 C2 : Array Value) (s1 s2 : Bool) (b1 b2 : List Int) (p1 p2 : Int), v = .agg cs ∧ PairC cs C1 C2 ∧ EndC C1 s1 b1 p1 ∧ EndC C2 s2 b2 p2 := by
  obtain ⟨cs, rfl, hsz, ts, hts', _, hcell⟩ : ∃ cs, v = .agg cs ∧ cs.size = P.cellsOf t ∧ Row.okWide P w r b0 t cs := by
    simpa [Value.okWide, ht] using hval
  obtain ⟨l⟩ := cs
  rw [hc] at hsz
  have hl : l.length = 36 := by simpa using hsz
  rw [hts] at hts'
  obtain rfl := Option.some.inj hts'
  have key : ∀ i, i < 36 → ∃ v u, l[i]? = some v ∧ (((tb :: List.replicate 16 ti) ++ [tp]) ++ ((tb :: List.replicate 16 ti) ++ [tp]))[i]? = some u ∧ Cell.okWide P w r b0 u v := fun i hi36 => by
    have e : l[i]? = some (l[i]'(by omega)) := List.getElem?_eq_getElem _
    obtain ⟨u, h1, h2⟩ := hcell i (l[i]'(by omega)) (by rw [← e]; simp)
    refine ⟨_, u, e, ?_, h2⟩
    have : i % 36 = i := Nat.mod_eq_of_lt hi36
    simpa [this] using h1
  have hE : ((tb :: List.replicate 16 ti) ++ [tp]).length = 18 := by simp
  obtain ⟨s1, b1, p1, E1⟩ := end_row (P := P) (w := w) (r := r) (b0 := b0) (l := l.take 18) (by rw [List.length_take, hl]; decide) hb hi hp fun i hi' => by
    obtain ⟨v, u, h1, h2, h3⟩ := key i (by omega)
    rw [List.getElem?_append_left (by rw [hE]; exact hi')] at h2
    exact ⟨v, u, by rw [List.getElem?_take, if_pos hi']; exact h1, h2, h3⟩
  obtain ⟨s2, b2, p2, E2⟩ := end_row (P := P) (w := w) (r := r) (b0 := b0) (l := l.drop 18) (by rw [List.length_drop, hl]) hb hi hp fun i hi' => by
    obtain ⟨v, u, h1, h2, h3⟩ := key (18 + i) (by omega)
    rw [List.getElem?_append_right (by rw [hE]; omega), hE, show 18 + i - 18 = i by omega] at h2
    exact ⟨v, u, by rw [List.getElem?_drop]; exact h1, h2, h3⟩
  refine ⟨_, _, _, s1, s2, b1, b2, p1, p2, rfl, ⟨by simpa using hl, E1.size, E2.size, fun j v hv => ?_, fun j v hv => ?_⟩, E1, E2⟩
  · rw [Nat.zero_add]
    rw [List.getElem?_toArray] at hv ⊢
    rw [List.getElem?_take] at hv
    split at hv
    · exact hv
    · cases hv
  · rw [List.getElem?_toArray] at hv ⊢
    rwa [List.getElem?_drop] at hv
end
set_option maxRecDepth 100000 in
set_option maxHeartbeats 1000000 in
theorem contexts_walk (cs C1 C2 : Array Value) (s1 s2 : Bool) (b1 b2 : List Int) (p1 p2 i1 i2 : Int) (w : World) (hp : PairC cs C1 C2) (h1 : EndC C1 s1 b1 p1) (h2 : EndC C2 s2 b2 p2) (l1 : 0 ≤ i1) (m1 : i1 ≤ 4294967295) (l2 : 0 ≤ i2) (m2 : i2 ≤ 4294967295) :
    Calls Try.prog 4 #[.agg cs, .int .u32 i1, .int .u32 i2] w (AliveRet w) := by
  have KA := Lib.hid (fun w' => ctx_any C1 C2 s1 s2 b1 b2 p1 p2 i1 i2 w' h1 h2 l1 m1 l2 m2)
  have KB := Lib.hid (fun w' => rctx_any C1 C2 s1 s2 b1 b2 p1 p2 i1 i2 w' h1 h2 l1 m1 l2 m2)
  generalize ctxX s1 s2 b1 b2 p1 p2 i1 i2 = T at *
  generalize ctxE s1 s2 = E at *
  obtain ⟨W, hW⟩ : ∃ W, W = w.alloc (.cells cs 39) := ⟨_, rfl⟩
  have G : W.heap[w.heap.size]? = some (.cells cs 39 (0, 0)) := by rw [hW]; exact heap_alloc_new w _
  have BW := Lib.hid (show Below w.heap.size w W by rw [hW]; exact alloc_below _ _)
  have U1 := Lib.hid (show (Try.prog.info? 37).map (·.size) = some C1.size by rw [end_info, hp.z1])
  have U2 := Lib.hid (show (Try.prog.info? 37).map (·.size) = some C2.size by rw [end_info, hp.z2])
  have CL1 := Lib.hid (fun (w' : World) (hG : Gr W w') (j : Nat) (v : Value) (hv : C1[j]? = some v) => (show w'.cell? ⟨w.heap.size, 0 + j, none⟩ = some v by rw [cell_of_row w' _ _ _ _ (0, 0) (hG.row G)]; exact hp.c1 j v hv))
  have CL2 := Lib.hid (fun (w' : World) (hG : Gr W w') (j : Nat) (v : Value) (hv : C2[j]? = some v) => (show w'.cell? ⟨w.heap.size, 18 + j, none⟩ = some v by rw [cell_of_row w' _ _ _ _ (0, 0) (hG.row G)]; exact hp.c2 j v hv))
  have D1 := Lib.hid (CL1.out W (Below.refl _ _))
  have D2 := Lib.hid (CL2.out W (Below.refl _ _))
  clear h1 h2 hp G
  go_enter Try.func4, Try.ntmps4
  go_upto_region 1 with fail
  rw [← hW]
  clear hW
  go_upto_region 2 with (first
    | (refine wpList_load_piece rfl 37 (.tmp 12) rfl w.heap.size 0 rfl C1 _ D1.out Try.underlying37 rfl U1.out ?_)
    | (refine wpList_load_piece rfl 37 (.tmp 14) rfl w.heap.size 18 rfl C2 _ D2.out Try.underlying37 rfl U2.out ?_)
    | (go_at_call 15; (with_reducible refine (KA.out _).mono ?_); rintro e w1 ⟨A3, n3, c3, rfl, K3, B3⟩))
  have HB3 := Lib.hid (BW.out.trans (B3.mono BW.out.size))
  have HK3 := Lib.hid K3
  have D3 := Lib.hid (CL1.out w1 B3)
  have D4 := Lib.hid (CL2.out w1 B3)
  clear K3 B3 KA
  go_upto_region 3 with (first
    | (refine wpList_load_piece rfl 37 (.tmp 22) rfl w.heap.size 0 rfl C1 _ D3.out Try.underlying37 rfl U1.out ?_)
    | (refine wpList_load_piece rfl 37 (.tmp 24) rfl w.heap.size 18 rfl C2 _ D4.out Try.underlying37 rfl U2.out ?_)
    | (go_at_call 16; (with_reducible refine (KB.out _).mono ?_); rintro e w2 ⟨A4, n4, c4, rfl, K4, B4⟩
       have HB4 := Lib.hid (HB3.out.trans (B4.mono HB3.out.size))))
  have k1 := str_of (HK3.out.below B4)
  have k2 := str_of K4
  clear K4 B4 KB
  go_wp2_with (first
    | (go_at_call 10; refine (alive_any _).mono ?_; rintro e w9 ⟨rfl, B9⟩))
  go_ret
  exact ⟨rfl, HB4.out.trans (B9.mono HB4.out.size)⟩
end Go.Proofs.Ythbgjjfhgbkbdaa.kdC
