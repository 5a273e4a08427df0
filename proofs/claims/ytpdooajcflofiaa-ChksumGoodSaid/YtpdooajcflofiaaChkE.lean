/-
  The walk of the first statement.
-/
import Derived.Test.YtpdooajcflofiaaChkD
import Derived.Deep.Matrix
namespace Go.Proofs.Ytpdooajcflofiaa.chkC
open Go.ChangeShapes Go.WideShapes Go.ChangeAt Go.RowKit
open Go.Proofs.Ytpdooajcflofiaa.memC Go.Proofs.Ytpdooajcflofiaa.chkM
set_option linter.unusedVariables false
theorem long_any (A : Option Addr) (n c : Nat) (w : World) (hn : n ≤ 9223372036854775807) :
    Calls Try.prog 9 #[.slice A n c] w fun e w' => e = .returned (.bool (decide (3000 < n))) ∧ w = w' := by
  go_enter Try.func9, Try.ntmps9
  go_wp2
  go_ret
  exact ⟨ret_bool (by rw [decide_eq_decide]; omega), rfl⟩
/-- parts that came in, of any length -/
structure Came (w : World) (B : Nat) (P : Option Addr) (ps : List Part) : Prop where
  at_ : 0 < ps.length → ∃ b o, P = some ⟨b, o, none⟩ ∧ b < B ∧ ∀ i (h : i < ps.length), w.cell? ⟨b, o + i, none⟩ = some (.slice ps[i].A ps[i].n ps[i].c)
  nums : ∀ p ∈ ps, Nums .u8 w B p.A p.n p.bs
  byte : ∀ p ∈ ps, ∀ x ∈ p.bs, Byte x
  size : ∀ p ∈ ps, p.n ≤ 9223372036854775807
theorem Came.parts {w : World} {B : Nat} {P : Option Addr} {ps : List Part} (h : Came w B P ps) (hf : ∀ i (hi : i < ps.length), ps[i].n ≤ 3000) : Parts w B P ps :=
  ⟨h.at_, fun p hp => by
    obtain ⟨i, hi, rfl⟩ := List.getElem_of_mem hp
    exact ⟨h.nums _ hp, by have := hf i hi; omega, h.byte _ hp⟩⟩
theorem Parts.heap {w w' : World} {B : Nat} {P : Option Addr} {ps : List Part} (h : Parts w B P ps) (e : w'.heap = w.heap) : Parts w' B P ps :=
  ⟨fun hl => by
    obtain ⟨b, o, e1, hb, hc⟩ := h.at_ hl
    exact ⟨b, o, e1, hb, fun i hi => (World.cell?_of_block (w := w) (w' := w') (by rw [e])).trans (hc i hi)⟩, fun p hp => (h.all p hp).heap e⟩
def FewR (ps : List Part) (k : Nat) : Prop := ∀ i (hi : i < ps.length), i < k → ps[i].n ≤ 3000
set_option maxRecDepth 100000 in
set_option maxHeartbeats 1000000 in
theorem sums_walk (P : Option Addr) (m c : Nat) (ps : List Part) (w : World) (hp : Came w w.heap.size P ps) (hl : ps.length = m) (hm : m ≤ 9223372036854775807) :
    Calls Try.prog 3 #[.slice P m c] w (AliveRet w) := by
  have HP := Lib.hid hp
  have HL := Lib.hid hl
  clear hp hl
  by_cases h30 : 30 < m
  · go_enter Try.func3, Try.ntmps3
    go_wp2_with (go_at_call 8; (refine (alive_any _).mono ?_; rintro e w' ⟨rfl, hb⟩))
    go_ret
    exact ⟨rfl, hb⟩
  · go_enter Try.func3, Try.ntmps3
    go_wp2_with fail
    go_loop [11] (fun i => ∃ k : Nat, k ≤ m ∧ i = .int .i64 k ∧ FewR ps k) (fun i => m - (intOf i).toNat)
    case atStart => exact ⟨0, Nat.zero_le _, rfl, fun i _ h => absurd h (by omega)⟩
    case round =>
      obtain ⟨k, hk, rfl, hfew⟩ := hrel
      have HF := Lib.hid hfew
      clear hfew
      by_cases hlt : k < m
      · have hkl : k < ps.length := by rw [HL.out]; exact hlt
        obtain ⟨b, o, rfl, hbb, hcell⟩ := HP.out.at_ (by rw [HL.out]; omega)
        have cc := hcell k hkl
        have hsz := HP.out.size _ (List.getElem_mem hkl)
        have HN : Hid (ps[k].n ≤ 3000 → FewR ps (k + 1)) := Lib.hid fun h i hi hik => by
          by_cases e : i = k
          · subst e; exact h
          · exact HF.out i hi (by omega)
        generalize hpk : ps[k] = p at *
        obtain ⟨A, n, c', bs⟩ := p
        simp only at cc hsz HN
        clear hcell hpk
        have LL := Lib.hid (long_any A n c' w hsz)
        by_cases hlong : 3000 < n
        · have d1 : decide (3000 < n) = true := by simpa using hlong
          clear hlong
          go_wp2_with (first
            | (go_at_call 9; (refine LL.out.mono ?_; rintro e w' ⟨rfl, rfl⟩))
            | (go_at_call 8; (refine (alive_any _).mono ?_; rintro e w' ⟨rfl, hb⟩)))
          go_ret
          exact ⟨rfl, hb⟩
        · have d1 : decide (3000 < n) = false := by simpa using hlong
          have hn := HN.out (by omega)
          have HN2 := Lib.hid hn
          clear hlong hn HN
          go_wp2_with (first
            | (go_at_call 9; (refine LL.out.mono ?_; rintro e w' ⟨rfl, rfl⟩)))
          go_round
          case rel => exact ⟨k + 1, by omega, by go_num, HN2.out⟩
          case measure => simp [intOf]; omega
      · have e : k = m := by omega
        subst e
        have hparts := HP.out.parts (fun i hi => HF.out i hi (by rw [← HL.out]; exact hi))
        have S0 := sum_any P k c ps w hparts (by omega) HL.out
        have R0 : ∀ j, _ := fun j => sumref_any P k c ps (w.drewN j) (hparts.heap rfl) (by omega) HL.out
        have C0 : ∀ j, _ := fun j => check_any P k c ps (w.drewN j) (hparts.heap rfl) (by omega) HL.out
        have fb := fo_bd (psum (numsOf ps))
        have n1 := not16 fb.1 fb.2
        have ec : ckZ ps = 65535 - fo (psum (numsOf ps)) := rfl
        rw [← ec] at n1
        obtain ⟨f, ef⟩ : ∃ f, f = fo (psum (numsOf ps)) := ⟨_, rfl⟩
        obtain ⟨g, eg⟩ : ∃ g, g = ckZ ps := ⟨_, rfl⟩
        rw [← ef] at fb n1 S0 R0
        rw [← eg] at n1 C0
        have SH := Lib.hid S0
        have RH := Lib.hid R0
        have CH := Lib.hid C0
        obtain ⟨fb0, fb1⟩ := fb
        clear S0 R0 C0 ef eg ec hparts
        have AL := Lib.hid (fun j => alive_past (bel_drewN (Below.refl w.heap.size w) j))
        go_wp2_with (go_at_call 10; (refine SH.out.mono ?_; rintro e w' ⟨rfl, j, rfl⟩))
        go_wp2_with (go_at_call 11; (refine (RH.out _).mono ?_; rintro e w' ⟨rfl, rfl⟩))
        go_wp2_with (go_at_call 12; (refine (CH.out _).mono ?_; rintro e w' ⟨rfl, j2, rfl⟩))
        go_wp2_with (go_at_call 11; (refine (RH.out _).mono ?_; rintro e w' ⟨rfl, rfl⟩))
        clear n1 fb0 fb1 hk hlt h30
        go_wp2_with (go_at_call 8; (refine (AL.out _).mono ?_; rintro e w' ⟨rfl, hb⟩))
        go_ret
        exact ⟨rfl, hb⟩
/-- slices of bytes that came in -/
theorem open_parts {H : Type} {enc : TypeId × Value → H} {P : Program} {w : World} {base : Nat} {held : Bool} {r : Reach} {b0 : Nat} {t e q : TypeId} {v : Value} {d : DataW H} {pl : List MemPlace}
    (ht : P.underlying t = some (.slice e)) (he : P.underlying e = some (.slice q)) (hq : P.underlying q = some (.int .u8)) (ce : P.cellsOf e = 1) (cq : P.cellsOf q = 1) (hval : Value.okWide P w r b0 t v) (hd : DataW.Trod enc P w base (fun _ => true) held t v d pl) :
    ∃ A m c ps, v = .slice A m c ∧ m ≤ 9223372036854775807 ∧ ps.length = m ∧ Came w w.heap.size A ps := by
  obtain ⟨a, len, cap, rfl⟩ := okWide_slice ht hval
  obtain ⟨fuel, hf⟩ := hd
  rcases Go.Deep.open_int_rows ht he hq ce cq hf with ⟨hcs, _⟩ | ⟨x, l, c, A, L, C, Z, hcs, _, hl, hm, _, hr⟩
  · simp [Value.cells] at hcs
    obtain ⟨rfl, rfl, rfl⟩ := hcs
    exact ⟨none, 0, 0, [], rfl, Nat.zero_le _, rfl, ⟨fun h => absurd h (Nat.lt_irrefl 0), by simp, by simp, by simp⟩⟩
  · simp [Value.cells] at hcs
    obtain ⟨rfl, rfl, rfl⟩ := hcs
    unfold maxLen at hm hr
    have spot : ∀ {y : Addr} {u : Value}, w.cell? y = some u → y = ⟨y.block, y.off, none⟩ := fun {y u} h => by
      obtain ⟨b, o, s⟩ := y
      have : s = none := by simpa using World.cell?_spot h
      subst this; rfl
    refine ⟨some x, len, cap, (List.range len).map fun i => ⟨A i, L i, C i, (Z i).take (L i)⟩, rfl, by omega, by simp, ?_, ?_, ?_, ?_⟩
    · intro h0
      have h0' : 0 < len := by simpa using h0
      obtain ⟨hc, _⟩ := hr 0 (by omega)
      have e0 : x.add 0 = x := by unfold Addr.add; simp
      rw [e0] at hc
      have ex := spot hc
      obtain ⟨b, o, s⟩ := x
      simp at ex
      subst ex
      refine ⟨b, o, rfl, World.block_lt_of_cell? _ _ hc, fun i hi => ?_⟩
      have hi' : i < len := by simpa using hi
      have h2 := (hr i (by omega)).1
      rw [memC.add_plain] at h2
      simpa using h2
    · intro p hp
      obtain ⟨i, hi, rfl⟩ := List.mem_map.1 hp
      have hi' : i < len := List.mem_range.1 hi
      obtain ⟨_, h1, h2, h3, _, h5, h6⟩ := hr i (by omega)
      refine ⟨by simp; omega, fun hn => ?_⟩
      simp only at hn
      cases hA : A i with
      | none => have := h5 hA; omega
      | some y =>
        obtain ⟨_, hc⟩ := h6 y hA
        have h0 := hc 0 (by omega)
        have e0 : y.add 0 = y := by unfold Addr.add; simp
        rw [e0] at h0
        have ey := spot h0
        obtain ⟨b, o, s⟩ := y
        simp at ey
        subst ey
        refine ⟨b, o, rfl, World.block_lt_of_cell? _ _ h0, fun j hj => ?_⟩
        simp only at hj
        have h7 := hc j (by omega)
        rw [memC.add_plain] at h7
        rw [h7]
        simp [List.getD_eq_getElem?_getD, hj]
    · intro p hp y hy
      obtain ⟨i, hi, rfl⟩ := List.mem_map.1 hp
      have hi' : i < len := List.mem_range.1 hi
      obtain ⟨_, _, _, _, h4, _⟩ := hr i (by omega)
      exact bounds_u8 (h4 y (List.mem_of_mem_take hy))
    · intro p hp
      obtain ⟨i, hi, rfl⟩ := List.mem_map.1 hp
      have hi' : i < len := List.mem_range.1 hi
      obtain ⟨_, h1, h2, _⟩ := hr i (by omega)
      show L i ≤ _
      omega
end Go.Proofs.Ytpdooajcflofiaa.chkC
