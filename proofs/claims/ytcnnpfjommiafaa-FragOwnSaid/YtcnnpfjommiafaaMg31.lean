/-
  2 texts of a proof, joined.
-/
import Derived.Test.YtcnnpfjommiafaaMg2
import Derived.Deep.Matrix
import Derived.Test.YtcnnpfjommiafaaMg8
import Derived.Lib.AppendZeros

/-
  Rows of slices of bytes: parts, that came in or that the call lays.
-/
namespace Go.Proofs.Ytcnnpfjommiafaa.partsC
open Go.ChangeShapes Go.WideShapes Go.ChangeAt Go.RowKit
open Go.Proofs.Ytcnnpfjommiafaa.memC Go.Proofs.Ytcnnpfjommiafaa.genC Go.Proofs.Ytcnnpfjommiafaa.butC
set_option linter.unusedVariables false
/-- a part: a slice, and what it holds -/
structure Part where
  A : Option Addr
  n : Nat
  c : Nat
  bs : List Int
/-- a part that lies in memory below B -/
structure PartAt (w : World) (B : Nat) (p : Part) : Prop where
  nums : Nums .u8 w B p.A p.n p.bs
  few : p.n ≤ 10000
  byte : ∀ x ∈ p.bs, Byte x
  cap : p.n ≤ p.c
  max : p.c ≤ 9223372036854775807
theorem PartAt.heap {w w' : World} {B : Nat} {p : Part} (h : PartAt w B p) (e : w'.heap = w.heap) : PartAt w' B p := ⟨h.nums.heap e, h.few, h.byte, h.cap, h.max⟩
theorem PartAt.below {w w' : World} {B B' : Nat} {p : Part} (h : PartAt w B p) (hb : Below B w w') (hB : B ≤ B') : PartAt w' B' p := ⟨(h.nums.below hb).more hB, h.few, h.byte, h.cap, h.max⟩
/-- parts that lie in a row -/
structure Parts (w : World) (B : Nat) (P : Option Addr) (ps : List Part) : Prop where
  at_ : 0 < ps.length → ∃ b o, P = some ⟨b, o, none⟩ ∧ b < B ∧ ∀ i (h : i < ps.length), w.cell? ⟨b, o + i, none⟩ = some (.slice ps[i].A ps[i].n ps[i].c)
  all : ∀ p ∈ ps, PartAt w B p
theorem Parts.cell {w : World} {B : Nat} {P : Option Addr} {ps : List Part} (h : Parts w B P ps) {i : Nat} (hi : i < ps.length) :
    ∃ b o, P = some ⟨b, o, none⟩ ∧ b < B ∧ w.cell? ⟨b, o + i, none⟩ = some (.slice ps[i].A ps[i].n ps[i].c) ∧ PartAt w B ps[i] := by
  obtain ⟨b, o, e, hb, hc⟩ := h.at_ (by omega)
  exact ⟨b, o, e, hb, hc i hi, h.all _ (List.getElem_mem _)⟩
theorem Parts.below {w w' : World} {B B' : Nat} {P : Option Addr} {ps : List Part} (h : Parts w B P ps) (hb : Below B w w') (hB : B ≤ B') : Parts w' B' P ps :=
  ⟨fun hl => by
    obtain ⟨b, o, e1, hbb, hc⟩ := h.at_ hl
    exact ⟨b, o, e1, by omega, fun i hi => (hb.cell (p := ⟨b, o + i, none⟩) hbb).trans (hc i hi)⟩, fun p hp => (h.all p hp).below hb hB⟩
theorem Parts.heap {w w' : World} {B : Nat} {P : Option Addr} {ps : List Part} (h : Parts w B P ps) (e : w'.heap = w.heap) : Parts w' B P ps :=
  ⟨fun hl => by
    obtain ⟨b, o, e1, hb, hc⟩ := h.at_ hl
    exact ⟨b, o, e1, hb, fun i hi => (World.cell?_of_block (w := w) (w' := w') (by rw [e])).trans (hc i hi)⟩, fun p hp => (h.all p hp).heap e⟩
/-- how many bytes they have -/
def nsum : List Part → Nat
  | [] => 0
  | p :: r => p.n + nsum r
theorem nsum_append : ∀ (a b : List Part), nsum (a ++ b) = nsum a + nsum b
  | [], b => by simp [nsum]
  | p :: r, b => by rw [List.cons_append, nsum, nsum, nsum_append r b]; omega
theorem nsum_snoc (ps : List Part) (k : Nat) (h : k < ps.length) : nsum (ps.take (k + 1)) = nsum (ps.take k) + ps[k].n := by
  rw [List.take_succ_eq_append_getElem h, nsum_append]; simp [nsum]
theorem nsum_take (ps : List Part) (k : Nat) : nsum (ps.take k) ≤ nsum ps := by
  have h := nsum_append (ps.take k) (ps.drop k)
  rw [List.take_append_drop] at h
  omega
/-- all their bytes -/
def catL (ps : List Part) : List Int := ps.flatMap Part.bs
theorem catL_snoc (ps : List Part) (k : Nat) (h : k < ps.length) : catL (ps.take (k + 1)) = catL (ps.take k) ++ ps[k].bs := by
  rw [List.take_succ_eq_append_getElem h, catL, List.flatMap_append]; simp [catL]
theorem catL_len {w : World} {B : Nat} : ∀ (ps : List Part), (∀ p ∈ ps, PartAt w B p) → (catL ps).length = nsum ps
  | [], _ => rfl
  | p :: r, h => by
    have h1 := (h p (by simp)).nums.len
    have h2 := catL_len r fun q hq => h q (by simp [hq])
    show (p.bs ++ catL r).length = _
    rw [List.length_append, h1, h2]; rfl
theorem catL_byte {w : World} {B : Nat} {ps : List Part} (h : ∀ p ∈ ps, PartAt w B p) : ∀ x ∈ catL ps, Byte x := by
  intro x hx
  obtain ⟨p, hp, hx2⟩ := List.mem_flatMap.1 hx
  exact (h p hp).byte x hx2
theorem PartAt.alloc {w : World} {p : Part} (h : PartAt w w.heap.size p) (o : Obj) : PartAt (w.alloc o) (w.alloc o).heap.size p := h.below (alloc_below w o) (alloc_below w o).size
theorem parts1 {w : World} {A : Option Addr} {n c : Nat} {bs : List Int} (h : PartAt w w.heap.size ⟨A, n, c, bs⟩) (T : TypeId) :
    Parts (w.alloc (.cells #[.slice A n c] T)) (w.alloc (.cells #[.slice A n c] T)).heap.size (some ⟨w.heap.size, 0, none⟩) [⟨A, n, c, bs⟩] := by
  refine ⟨fun _ => ⟨_, 0, rfl, by rw [alloc_size]; exact Nat.lt_succ_self _, fun i hi => ?_⟩, fun p hp => ?_⟩
  · obtain rfl : i = 0 := by simpa using hi
    simp [go_sem]
  · obtain rfl := List.mem_singleton.1 hp
    exact h.alloc _
theorem parts2 {w : World} {A A' : Option Addr} {n c n' c' : Nat} {bs bs' : List Int} (h : PartAt w w.heap.size ⟨A, n, c, bs⟩) (h' : PartAt w w.heap.size ⟨A', n', c', bs'⟩) (T : TypeId) :
    Parts (w.alloc (.cells #[.slice A n c, .slice A' n' c'] T)) (w.alloc (.cells #[.slice A n c, .slice A' n' c'] T)).heap.size (some ⟨w.heap.size, 0, none⟩) [⟨A, n, c, bs⟩, ⟨A', n', c', bs'⟩] := by
  refine ⟨fun _ => ⟨_, 0, rfl, by rw [alloc_size]; exact Nat.lt_succ_self _, fun i hi => ?_⟩, fun p hp => ?_⟩
  · simp only [List.length_cons, List.length_nil] at hi
    match i, hi with
    | 0, _ => simp [go_sem]
    | 1, _ => simp [go_sem]
  · rcases List.mem_cons.1 hp with rfl | hp
    · exact h.alloc _
    · obtain rfl := List.mem_singleton.1 hp
      exact h'.alloc _
theorem parts3 {w : World} {A A' A2 : Option Addr} {n c n' c' n2 c2 : Nat} {bs bs' bs2 : List Int} (h : PartAt w w.heap.size ⟨A, n, c, bs⟩) (h' : PartAt w w.heap.size ⟨A', n', c', bs'⟩) (h2 : PartAt w w.heap.size ⟨A2, n2, c2, bs2⟩) (T : TypeId) :
    Parts (w.alloc (.cells #[.slice A n c, .slice A' n' c', .slice A2 n2 c2] T)) (w.alloc (.cells #[.slice A n c, .slice A' n' c', .slice A2 n2 c2] T)).heap.size (some ⟨w.heap.size, 0, none⟩) [⟨A, n, c, bs⟩, ⟨A', n', c', bs'⟩, ⟨A2, n2, c2, bs2⟩] := by
  refine ⟨fun _ => ⟨_, 0, rfl, by rw [alloc_size]; exact Nat.lt_succ_self _, fun i hi => ?_⟩, fun p hp => ?_⟩
  · simp only [List.length_cons, List.length_nil] at hi
    match i, hi with
    | 0, _ => simp [go_sem]
    | 1, _ => simp [go_sem]
    | 2, _ => simp [go_sem]
  · rcases List.mem_cons.1 hp with rfl | hp
    · exact h.alloc _
    · rcases List.mem_cons.1 hp with rfl | hp
      · exact h'.alloc _
      · obtain rfl := List.mem_singleton.1 hp
        exact h2.alloc _
/-- parts that came in, of any length -/
structure Came (w : World) (B : Nat) (P : Option Addr) (ps : List Part) : Prop where
  at_ : 0 < ps.length → ∃ b o, P = some ⟨b, o, none⟩ ∧ b < B ∧ ∀ i (h : i < ps.length), w.cell? ⟨b, o + i, none⟩ = some (.slice ps[i].A ps[i].n ps[i].c)
  nums : ∀ p ∈ ps, Nums .u8 w B p.A p.n p.bs
  byte : ∀ p ∈ ps, ∀ x ∈ p.bs, Byte x
  size : ∀ p ∈ ps, p.n ≤ p.c ∧ p.c ≤ 9223372036854775807
theorem Came.parts {w : World} {B : Nat} {P : Option Addr} {ps : List Part} (h : Came w B P ps) {N : Nat} (hN : N ≤ 10000) (hf : ∀ i (hi : i < ps.length), ps[i].n ≤ N) : Parts w B P ps :=
  ⟨h.at_, fun p hp => by
    obtain ⟨i, hi, rfl⟩ := List.getElem_of_mem hp
    exact ⟨h.nums _ hp, by have := hf i hi; omega, h.byte _ hp, (h.size _ hp).1, (h.size _ hp).2⟩⟩
def FewR (N : Nat) (ps : List Part) (k : Nat) : Prop := ∀ i (hi : i < ps.length), i < k → ps[i].n ≤ N
/-- slices of bytes that came in -/
theorem open_parts {H : Type} {enc : TypeId × Value → H} {P : Program} {w : World} {base : Nat} {held : Bool} {r : Reach} {b0 : Nat} {t e q : TypeId} {v : Value} {d : DataW H} {pl : List MemPlace}
    (ht : P.underlying t = some (.slice e)) (he : P.underlying e = some (.slice q)) (hq : P.underlying q = some (.int .u8)) (ce : P.cellsOf e = 1) (cq : P.cellsOf q = 1) (hval : Value.okWide P w r b0 t v) (hd : DataW.Trod enc P w base (fun _ => true) held t v d pl) :
    ∃ A m c ps, v = .slice A m c ∧ m ≤ 9223372036854775807 ∧ ps.length = m ∧ Came w w.heap.size A ps := by
  obtain ⟨a, len, cap, rfl⟩ := okWide_slice ht hval
  obtain ⟨fuel, hf⟩ := hd
  rcases Go.Deep.open_int_rows ht he hq ce cq hf with ⟨hcs, _⟩ | ⟨x, l, c, A, L, C, Z, hcs, _, hl, hm, _, hr⟩
  · simp [Value.cells] at hcs
    obtain ⟨rfl, rfl, rfl⟩ := hcs
    exact ⟨none, 0, 0, [], rfl, Nat.zero_le _, rfl, ⟨fun h => absurd h (Nat.lt_irrefl 0), by simp, by simp, by simp⟩⟩
  · simp [Value.cells] at hcs
    obtain ⟨rfl, rfl, rfl⟩ := hcs
    unfold maxLen at hm hr
    have spot : ∀ {y : Addr} {u : Value}, w.cell? y = some u → y = ⟨y.block, y.off, none⟩ := fun {y u} h => by
      obtain ⟨b, o, s⟩ := y
      have : s = none := by simpa using World.cell?_spot h
      subst this; rfl
    refine ⟨some x, len, cap, (List.range len).map fun i => ⟨A i, L i, C i, (Z i).take (L i)⟩, rfl, by omega, by simp, ?_, ?_, ?_, ?_⟩
    · intro h0
      have h0' : 0 < len := by simpa using h0
      obtain ⟨hc, _⟩ := hr 0 (by omega)
      have e0 : x.add 0 = x := by unfold Addr.add; simp
      rw [e0] at hc
      have ex := spot hc
      obtain ⟨b, o, s⟩ := x
      simp at ex
      subst ex
      refine ⟨b, o, rfl, World.block_lt_of_cell? _ _ hc, fun i hi => ?_⟩
      have hi' : i < len := by simpa using hi
      have h2 := (hr i (by omega)).1
      rw [memC.add_plain] at h2
      simpa using h2
    · intro p hp
      obtain ⟨i, hi, rfl⟩ := List.mem_map.1 hp
      have hi' : i < len := List.mem_range.1 hi
      obtain ⟨_, h1, h2, h3, _, h5, h6⟩ := hr i (by omega)
      refine ⟨by simp; omega, fun hn => ?_⟩
      simp only at hn
      cases hA : A i with
      | none => have := h5 hA; omega
      | some y =>
        obtain ⟨_, hc⟩ := h6 y hA
        have h0 := hc 0 (by omega)
        have e0 : y.add 0 = y := by unfold Addr.add; simp
        rw [e0] at h0
        have ey := spot h0
        obtain ⟨b, o, s⟩ := y
        simp at ey
        subst ey
        refine ⟨b, o, rfl, World.block_lt_of_cell? _ _ h0, fun j hj => ?_⟩
        simp only at hj
        have h7 := hc j (by omega)
        rw [memC.add_plain] at h7
        rw [h7]
        simp [List.getD_eq_getElem?_getD, hj]
    · intro p hp y hy
      obtain ⟨i, hi, rfl⟩ := List.mem_map.1 hp
      have hi' : i < len := List.mem_range.1 hi
      obtain ⟨_, _, _, _, h4, _⟩ := hr i (by omega)
      exact bounds_u8 (h4 y (List.mem_of_mem_take hy))
    · intro p hp
      obtain ⟨i, hi, rfl⟩ := List.mem_map.1 hp
      have hi' : i < len := List.mem_range.1 hi
      obtain ⟨_, h1, h2, _⟩ := hr i (by omega)
      exact ⟨h1, by show C i ≤ _; omega⟩
end Go.Proofs.Ytcnnpfjommiafaa.partsC

/-
  What slices.Grow of nothing, and slices.Concat of some slices of bytes, do.
-/
namespace Go.Proofs.Ytcnnpfjommiafaa.conC
open Go.ChangeShapes Go.WideShapes Go.ChangeAt Go.RowKit
open Go.Proofs.Ytcnnpfjommiafaa.memC Go.Proofs.Ytcnnpfjommiafaa.genC Go.Proofs.Ytcnnpfjommiafaa.partsC
set_option linter.unusedVariables false
theorem byte_info : (Try.prog.info? 5).map (fun i => (i.zero, i.size, i.bytes)) = some (some (.int .u8 0), 1, 1) := by kernel_rfl
def GrowRet (w : World) (n : Nat) (e : Ending) (w' : World) : Prop :=
  ∃ c, e = .returned (.slice (some ⟨w.heap.size, 0, none⟩) 0 c) ∧ n ≤ c ∧ c ≤ maxLen ∧ Own .u8 5 w' w.heap.size (.slice (some ⟨w.heap.size, 0, none⟩) 0 c) [] ∧ Below w.heap.size w w'
set_option maxRecDepth 100000 in
theorem grow_any (n : Nat) (w : World) (h0 : 0 < n) (h1 : n ≤ 1000000) :
    Calls Try.prog 57 #[.slice none 0 0, .int .i64 n] w (GrowRet w n) := by
  obtain ⟨i0, hi0, hz0, hz1, hz2⟩ := info_parts byte_info
  have R := Go.Lib.run_append_nil_zeros (P := Try.prog) w 26 3 26 5 i0 (.int .u8 0) .i64 .i64 Try.underlying26 Try.underlying3 hi0 hz0 n h0 (by omega) (by omega) (by rw [hz2]; omega)
  have hge : n ≤ grownCap w n 0 5 := grownCap_ge w _ 0 _
  have hle : grownCap w n 0 5 ≤ maxLen := grownCap_le_maxLen w _ 0 _ (by unfold maxLen; omega)
  obtain ⟨c, hc⟩ : ∃ c, c = grownCap w n 0 5 := ⟨_, rfl⟩
  rw [← hc] at R hge hle
  obtain ⟨Z, hZ⟩ : ∃ Z, Z = (Builtin.zeroCells (Value.int .u8 0).cells n ++ Builtin.zeroCells (Value.int .u8 0).cells (c - n)) := ⟨_, rfl⟩
  rw [← hZ] at R
  have hZs : Z.size = c := by rw [hZ]; simp [size_zeroCells, Value.cells]; omega
  have O : Own .u8 5 (w.drew.alloc (.cells Z 5)) w.heap.size (.slice (some ⟨w.heap.size, 0, none⟩) 0 c) [] :=
    World.ownsRow_made w.drew Z c (Nat.le_refl _) hle (by rw [hZs]; omega)
  have B : Below w.heap.size w (w.drew.alloc (.cells Z 5)) := (Below.refl _ _).drew.alloc (Nat.le_refl _) _
  have RH := Lib.hid R
  have hn : (0 : Int) < n := by omega
  clear hc hZ R hi0 hz0 hz1 hz2 hZs
  go_enter Try.func57, Try.ntmps57
  go_wp2_with (at_builtin; refine Go.Lib.wpList_append_run _ rfl _ _ _ _ rfl _ _ rfl rfl _ _ RH.out ?_)
  go_ret
  exact ⟨c, rfl, hge, hle, O, B⟩
def CatRet (w : World) (T : List Int) (n : Nat) (e : Ending) (w' : World) : Prop :=
  ∃ A c, e = .returned (.slice A n c) ∧ n ≤ c ∧ c ≤ maxLen ∧ Own .u8 5 w' w.heap.size (.slice A n c) T ∧ Below w.heap.size w w'
def CatR (w wr : World) (ps : List Part) (k : Nat) (v : Value) : Prop := Own .u8 5 wr w.heap.size v (catL (ps.take k)) ∧ Below w.heap.size w wr
set_option maxRecDepth 100000 in
set_option maxHeartbeats 1000000 in
theorem concat_any (P : Option Addr) (m c n : Nat) (ps : List Part) (w : World) (hp : Parts w w.heap.size P ps) (hm : m ≤ 100) (hl : ps.length = m) (hn : nsum ps = n) (h0 : 0 < n) (h1 : n ≤ 1000000) :
    Calls Try.prog 40 #[.slice P m c] w (CatRet w (catL ps) n) := by
  have HP := Lib.hid hp
  have HL := Lib.hid hl
  have HN := Lib.hid hn
  have CL := Lib.hid (catL_len ps hp.all)
  obtain ⟨i0, hi0, hz0, hz1, hz2⟩ := info_parts byte_info
  have T1 := Lib.hid hi0; have T2 := Lib.hid hz0; have T3 := Lib.hid hz1; have T4 := Lib.hid hz2
  have hG := Lib.hid (grow_any n w h0 h1)
  clear hp hl hn hi0 hz0 hz1 hz2
  go_enter Try.func40, Try.ntmps40
  go_wp2_with fail
  go_loop [3, 11] (fun t i => ∃ k : Nat, k ≤ m ∧ i = .int .i64 k ∧ t = .int .i64 (nsum (ps.take k) : Nat)) (fun _ i => m - (intOf i).toNat)
  case atStart => exact ⟨0, Nat.zero_le _, rfl, rfl⟩
  case round =>
    obtain ⟨k, hk, rfl, rfl⟩ := hrel
    have hts := nsum_take ps k
    rw [HN.out] at hts
    by_cases hlt : k < m
    · obtain ⟨b, o, rfl, hbb, hcell, hpart⟩ := HP.out.cell (i := k) (by rw [HL.out]; exact hlt)
      have hkl : k < ps.length := by rw [HL.out]; exact hlt
      have HT := Lib.hid (nsum_snoc ps k hkl)
      generalize ps[k] = p at *
      obtain ⟨A, q, c', bs⟩ := p
      have hq := hpart.few
      simp only at hcell HT hq
      generalize nsum (ps.take k) = s at *
      go_wp2_with fail
      go_round
      case rel => exact ⟨k + 1, by omega, by go_num, by rw [HT.out]; go_num⟩
      case measure => simp [intOf]; omega
    · have e : k = m := by omega
      subst e
      have e2 : ps.take k = ps := List.take_of_length_le (by rw [HL.out]; omega)
      rw [e2, HN.out]
      clear hts e2
      go_wp2_with (go_at_call 57; ((with_reducible refine hG.out.mono ?_); rintro e w1 ⟨c1, rfl, g1, g2, O1, B1⟩))
      go_loopw [6, 27] (fun v i wr => ∃ j : Nat, j ≤ k ∧ i = .int .i64 j ∧ CatR w wr ps j v) (fun _ i _ => k - (intOf i).toNat)
      case atStart => exact ⟨0, Nat.zero_le _, rfl, O1, B1⟩
      case round =>
        obtain ⟨j, hj, rfl, O, Bw⟩ := hrel
        by_cases hlt : j < k
        · obtain ⟨b, o, rfl, hbb, hcell, hpart⟩ := HP.out.cell (i := j) (by rw [HL.out]; exact hlt)
          have hkl : j < ps.length := by rw [HL.out]; exact hlt
          have HT := Lib.hid (catL_snoc ps j hkl)
          have HS := Lib.hid (nsum_snoc ps j hkl)
          have hle := nsum_take ps (j + 1)
          have LC := Lib.hid (catL_len (ps.take j) (fun p hp => HP.out.all p (List.mem_of_mem_take hp)))
          rw [HS.out, HN.out] at hle
          generalize ps[j] = p at *
          obtain ⟨A, q, c', bs⟩ := p
          have hq := hpart.few
          simp only at hcell HT hq HS hle
          have cc : wr.cell? ⟨b, o + j, none⟩ = some (.slice A q c') := (Bw.cell (p := ⟨b, o + j, none⟩) hbb).trans hcell
          have NB := hpart.nums.below Bw
          simp only at NB
          clear hcell
          go_wp2_with (first
            | (at_builtin; (refine wpList_app _ rfl (.tmp 31) (.tmp 32) _ rfl 5 i0 _ 1 Try.underlying26 T1.out T2.out T3.out T4.out rfl w.heap.size _ (catL (ps.take j)) rfl O w.heap.size A q c' bs rfl NB (by rw [LC.out]; simp only [maxLen]; omega) (by rw [LC.out]; omega) Bw.size ?_)
               intro v' w' O' hg'
               have Bn : Below w.heap.size w w' := Below.grown Bw hg' Bw.size fun g hg => (O.blk g hg).1
               clear hg'))
          go_roundw
          case rel => exact ⟨j + 1, by omega, by go_num, by rw [CatR, HT.out]; exact ⟨O', Bn⟩⟩
          case measure => simp [intOf]; omega
        · have e : j = k := by omega
          subst e
          have e2 : ps.take j = ps := List.take_of_length_le (by rw [HL.out]; omega)
          rw [e2] at O
          obtain ⟨A', c', ev, h1', h2', N⟩ := O.form
          rw [CL.out, HN.out] at ev h1'
          subst ev
          clear e2 N
          go_wp2_with fail
          go_ret
          exact ⟨A', c', rfl, h1', h2', O, Bw⟩
end Go.Proofs.Ytcnnpfjommiafaa.conC
