/-
  The walk of the third statement of octets: what is put is read.
-/
import Derived.Test.YtbdppelkefhieaaOctG
namespace Go.Proofs.Ytbdppelkefhieaa.octC
open Go.ChangeShapes Go.WideShapes Go.ChangeAt Go.RowKit
open Go.Proofs.Ytbdppelkefhieaa.memC
set_option linter.unusedVariables false
theorem numL_byte (s : Nat) (x : Int) : ∀ y ∈ numL s x, Byte y := by
  induction s with
  | zero => intro y hy; cases hy
  | succ s ih =>
    intro y hy
    rcases List.mem_cons.1 hy with rfl | h
    · unfold byteAt; constructor <;> omega
    · exact ih y h
theorem getZ_cons (c : Int) (l : List Int) : getZ (c :: l) = c * 256 ^ l.length + getZ l := by
  have key : ∀ (l : List Int) (a : Int), l.foldl (fun n c => n * 256 + c) a = a * 256 ^ l.length + getZ l := by
    intro l
    induction l with
    | nil => intro a; simp [getZ]
    | cons c l ih =>
      intro a
      have h1 := ih (a * 256 + c)
      have h2 := ih (0 * 256 + c)
      simp only [getZ, List.foldl_cons, List.length_cons] at h1 h2 ⊢
      rw [h1, h2, Int.pow_succ, Int.add_mul]
      simp only [Int.zero_mul, Int.zero_add]
      rw [show a * 256 * 256 ^ l.length = a * (256 ^ l.length * 256) by rw [Int.mul_assoc, Int.mul_comm 256]]
      omega
  have := key l (0 * 256 + c)
  simp only [getZ, List.foldl_cons] at this ⊢
  rw [this]
  simp
theorem getZ_numL (s : Nat) (x : Int) (h : 0 ≤ x) : getZ (numL s x) = x % 256 ^ s := by
  induction s with
  | zero => simp [numL, getZ, Int.emod_one]
  | succ s ih =>
    have e : (2 : Int) ^ (8 * s) = 256 ^ s := by rw [Int.pow_mul]; rfl
    rw [numL, getZ_cons, ih, numL_len, byteAt, e, Int.pow_succ]
    have h1 := Int.emod_emod_of_dvd x (Int.dvd_mul_right (256 ^ s) 256)
    have h2 := Int.mul_ediv_add_emod (x % (256 ^ s * 256)) (256 ^ s)
    have h3 : x % (256 ^ s * 256) / 256 ^ s = x / 256 ^ s % 256 := by
      have hp : (0 : Int) < 256 ^ s := Int.pow_pos (by decide)
      rw [Int.emod_def, Int.emod_def (x / 256 ^ s), Int.ediv_ediv_of_nonneg (Int.le_of_lt hp)]
      rw [show x - 256 ^ s * 256 * (x / (256 ^ s * 256)) = x + 256 ^ s * -(256 * (x / (256 ^ s * 256))) by rw [Int.mul_neg, ← Int.mul_assoc]; omega]
      rw [Int.add_mul_ediv_left _ _ (by omega)]
      omega
    rw [h1, h3] at h2
    rw [Int.mul_comm (x / 256 ^ s % 256)]
    exact h2
theorem get_low (s : Nat) (x : Int) (rest : List Int) (h : 0 ≤ x) : getZ ((numL s x ++ rest).take s) = x % 256 ^ s := by
  rw [← getZ_numL s x h]
  congr 1
  have := numL_len s x
  rw [List.take_append_of_le_length (by omega), List.take_of_length_le (by omega)]
theorem drop_low (s : Nat) (x : Int) (rest : List Int) : (numL s x ++ rest).drop s = rest := by
  have := numL_len s x
  rw [List.drop_append_of_le_length (by omega), List.drop_of_length_le (by omega)]
  rfl
theorem fitN_nat {s : Nat} (h : s ≤ 8) : fitN (s : Int) = s := by unfold fitN; omega
/-- what the reading keeps -/
structure RB (pn ps pk pr p : Nat) (A2 : Option Addr) (m c2 s : Nat) (ns rest : List Int) (w w' : World) (k : Nat) : Prop where
  fr : Fr (fun x => x = pk ∨ x = p) w w'
  cn : w'.cell? ⟨pn, 0, none⟩ = some (.slice A2 m c2)
  cs : w'.cell? ⟨ps, 0, none⟩ = some (.int .i64 (s : Int))
  ck : w'.cell? ⟨pk, 0, none⟩ = some (.bool true)
  fk : w'.frozen? ⟨pk, 0, none⟩ = false
  cr : w'.cell? ⟨pr, 0, none⟩ = some (.pointer (some ⟨p, 0, none⟩))
  rd : Rd w' p ((ns.drop k).flatMap (numL s) ++ rest)
theorem wrap_pow {s : Nat} (h : s < 8) : IntKind.u64.wrap (2 ^ (8 * s)) = 2 ^ (8 * s) := by
  have : s = 0 ∨ s = 1 ∨ s = 2 ∨ s = 3 ∨ s = 4 ∨ s = 5 ∨ s = 6 ∨ s = 7 := by omega
  rcases this with rfl | rfl | rfl | rfl | rfl | rfl | rfl | rfl <;> decide
theorem pow_256 (s : Nat) : (2 : Int) ^ (8 * s) = 256 ^ s := by rw [Int.pow_mul]; rfl
theorem top_mod {x : Int} (h0 : 0 ≤ x) (h1 : x ≤ 18446744073709551615) : x % 256 ^ 8 = x := by
  have : (256 : Int) ^ 8 = 18446744073709551616 := by decide
  rw [this]; omega
theorem Rd.setCell_far {w : World} {p q : Nat} {bs : List Int} (h : Rd w p bs) (hq : p < q) (v : Value) : Rd (w.setCell ⟨q, 0, none⟩ v) p bs := by
  obtain ⟨A, n, c, h1, h2, h3, N, h4, h5⟩ := h
  have B : Below q w (w.setCell ⟨q, 0, none⟩ v) := (Below.refl _ _).setCell (p := ⟨q, 0, none⟩) (Nat.le_refl _) v
  exact ⟨A, n, c, (B.cell (p := ⟨p, 0, none⟩) hq).trans h1, (B.frozen (p := ⟨p, 0, none⟩) hq).trans h2, by simpa [World.setCell] using h3, N.below (B.mono (Nat.le_of_lt hq)), h4, h5⟩
theorem RB.next {pn ps pk pr p : Nat} {A2 : Option Addr} {m c2 s : Nat} {ns rest R : List Int} {w w' w2 : World} {k : Nat} (H : RB pn ps pk pr p A2 m c2 s ns rest w w' k) (G : w'.grownBy w2 (some p)) (hR : Rd w2 p R)
    (eR : R = (ns.drop (k + 1)).flatMap (numL s) ++ rest) (d1 : pn ≠ pk) (d2 : pn ≠ p) (d3 : ps ≠ pk) (d4 : ps ≠ p) (d5 : pr ≠ pk) (d6 : pr ≠ p) (d7 : p < pk) : RB pn ps pk pr p A2 m c2 s ns rest w (w2.setCell ⟨pk, 0, none⟩ (.bool true)) (k + 1) := by
  have far : ∀ q, q < w'.heap.size → q ≠ pk → q ≠ p → (w2.setCell ⟨pk, 0, none⟩ (.bool true)).cell? ⟨q, 0, none⟩ = w'.cell? ⟨q, 0, none⟩ := by
    intro q hq h1 h2
    have e1 : (w2.setCell ⟨pk, 0, none⟩ (.bool true)).cell? ⟨q, 0, none⟩ = w2.cell? ⟨q, 0, none⟩ := World.cell?_of_block (w := w2) (Below.heap_setCell _ _ _ _ (by intro e; exact h1 e))
    rw [e1]
    exact World.cell?_of_block (w := w') (G.block q hq (by intro e; exact h2 (Option.some.inj e)))
  have lk : pk < w'.heap.size := World.block_lt_of_cell? _ _ H.ck
  have gk : w2.cell? ⟨pk, 0, none⟩ = some (.bool true) := (World.cell?_of_block (w := w') (G.block pk lk (by intro e; have := Option.some.inj e; omega))).trans H.ck
  have zk : w2.frozen? ⟨pk, 0, none⟩ = false := (World.frozen?_of_block (w := w') (G.block pk lk (by intro e; have := Option.some.inj e; omega))).trans H.fk
  refine ⟨(H.fr.trans (Fr.grown G fun q hq _ => by injection hq with hq; exact .inr hq.symm)).trans (Fr.setCell _ (fun _ => .inl rfl) _), (far pn (World.block_lt_of_cell? _ _ H.cn) d1 d2).trans H.cn, (far ps (World.block_lt_of_cell? _ _ H.cs) d3 d4).trans H.cs, by go_simp, by go_simp, (far pr (World.block_lt_of_cell? _ _ H.cr) d5 d6).trans H.cr, ?_⟩
  rw [← eR]
  exact hR.setCell_far d7 _
set_option maxRecDepth 100000 in
set_option maxHeartbeats 1000000 in
theorem back_reading (pn ps pk pr p : Nat) (A2 : Option Addr) (m c2 s B : Nat) (ns rest : List Int) (w : World) (h0 : RB pn ps pk pr p A2 m c2 s ns rest w w 0) (N : Nums .u64 w B A2 m ns) (hs : s ≤ 8) (hm : m ≤ 300)
    (d1 : pn ≠ pk) (d2 : pn ≠ p) (d3 : ps ≠ pk) (d4 : ps ≠ p) (d5 : pr ≠ pk) (d6 : pr ≠ p) (d7 : p < pk) (d8 : B ≤ p) (d9 : B ≤ pk) (hB : B ≤ w.heap.size) (hx : ∀ x ∈ ns, 0 ≤ x ∧ x ≤ 18446744073709551615) (hy : ∀ x ∈ rest, Byte x) :
    Calls Try.prog 21 #[.pointer (some ⟨pn, 0, none⟩), .pointer (some ⟨ps, 0, none⟩), .pointer (some ⟨pk, 0, none⟩), .pointer (some ⟨pr, 0, none⟩)] w fun e w' =>
      e = .returned (.tuple #[]) ∧ Fr (fun x => x = pk ∨ x = p) w w' ∧ (w'.cell? ⟨pk, 0, none⟩ = some (.bool true) ∧ Rd w' p rest) := by
  have h1 := h0.cn
  go_enter Try.func21, Try.ntmps21
  go_wp2_with fail
  go_loopw [9] (fun i wr => ∃ k : Nat, k ≤ m ∧ i = .int .i64 k ∧ RB pn ps pk pr p A2 m c2 s ns rest w wr k) (fun i _ => m - (intOf i).toNat)
  case atStart => exact ⟨0, Nat.zero_le _, rfl, h0⟩
  case round =>
    obtain ⟨k, hk, rfl, H⟩ := hrel
    by_cases hlt : k < m
    · obtain ⟨b, o, rfl, hb, hcell⟩ := N.cell hlt
      have hl := N.len
      obtain ⟨x, ex⟩ : ∃ x, x = ns.getD k 0 := ⟨_, rfl⟩
      have hxb := hx x (by rw [ex, List.getD_eq_getElem?_getD, List.getElem?_eq_getElem (by omega)]; exact List.getElem_mem _)
      have hc : wr.cell? ⟨b, o + k, none⟩ = some (.int .u64 x) := by
        rw [H.fr.cell (a := ⟨b, o + k, none⟩) (by show b < _; omega) (fun h => by have h : b = pk ∨ b = p := h; omega), ex]; exact hcell
      obtain ⟨x0, x1⟩ := hxb
      have cs := H.cs
      have ck := H.ck
      have fk := H.fk
      have cr := H.cr
      have EX := Lib.hid ex
      have HL := Lib.hid hl
      clear hcell ex hl h1
      obtain ⟨R, eR⟩ : ∃ R, R = (ns.drop (k + 1)).flatMap (numL s) ++ rest := ⟨_, rfl⟩
      have ed : (ns.drop k).flatMap (numL s) ++ rest = numL s x ++ R := by
        have e1 : ns.drop k = x :: ns.drop (k + 1) := by
          rw [EX.out, List.getD_eq_getElem?_getD, List.getElem?_eq_getElem (by have := HL.out; omega)]
          exact List.drop_eq_getElem_cons (by have := HL.out; omega)
        rw [e1, List.flatMap_cons, List.append_assoc, ← eR]
      have rd := H.rd
      rw [ed] at rd
      have hby : ∀ y ∈ numL s x ++ R, Byte y := by
        intro y hy'
        rcases List.mem_append.1 hy' with h | h
        · exact numL_byte s x y h
        · rw [eR] at h
          rcases List.mem_append.1 h with h | h
          · obtain ⟨z, _, hz⟩ := List.mem_flatMap.1 h
            exact numL_byte s z y hz
          · exact hy y h
      have NO := num_ok p (numL s x ++ R) s wr rd (by omega) (by omega) (by rw [fitN_nat hs, List.length_append, numL_len]; omega) hby
      rw [fitN_nat hs] at NO
      obtain ⟨z, ez⟩ : ∃ z, z = x % 256 ^ s := ⟨_, rfl⟩
      have NP := Lib.hid (NO.mono fun e w' h => (⟨by rw [h.1, get_low s x R x0, ← ez], by have := h.2.1; rw [drop_low] at this; exact this, h.2.2⟩ : e = .returned (.int .u64 z) ∧ Rd w' p R ∧ wr.grownBy w' (some p)))
      have ER := Lib.hid eR
      have EZ := Lib.hid ez
      clear NO hby rd ed eR ez
      by_cases h8 : s < 8
      · obtain ⟨M, eM⟩ : ∃ M : Int, M = 2 ^ (8 * s) := ⟨_, rfl⟩
        have hw : IntKind.u64.wrap (2 ^ (8 * s)) = M := (wrap_pow h8).trans eM.symm
        have hM : 1 ≤ M := by rw [eM]; exact Int.pow_pos (by decide)
        have hz : x % M = z := by rw [eM, pow_256]; exact EZ.out.symm
        clear eM
        go_wp2_with (go_at_call 22
                     refine NP.out.mono ?_
                     rintro e w2 ⟨rfl, R2, G⟩
                     have gk : w2.cell? ⟨pk, 0, none⟩ = some (.bool true) := (World.cell?_of_block (w := wr) (G.block pk (World.block_lt_of_cell? _ _ ck) (by intro e; have := Option.some.inj e; omega))).trans ck
                     have zk : w2.frozen? ⟨pk, 0, none⟩ = false := (World.frozen?_of_block (w := wr) (G.block pk (World.block_lt_of_cell? _ _ ck) (by intro e; have := Option.some.inj e; omega))).trans fk)
        go_roundw
        case rel => exact ⟨k + 1, by omega, by go_num, H.next G R2 ER.out d1 d2 d3 d4 d5 d6 d7⟩
        case measure => simp [intOf]; omega
      · have e8 : s = 8 := by omega
        subst e8
        have hzx : z = x := by rw [EZ.out]; exact top_mod x0 x1
        subst hzx
        go_wp2_with (go_at_call 22
                     refine NP.out.mono ?_
                     rintro e w2 ⟨rfl, R2, G⟩
                     have gk : w2.cell? ⟨pk, 0, none⟩ = some (.bool true) := (World.cell?_of_block (w := wr) (G.block pk (World.block_lt_of_cell? _ _ ck) (by intro e; have := Option.some.inj e; omega))).trans ck
                     have zk : w2.frozen? ⟨pk, 0, none⟩ = false := (World.frozen?_of_block (w := wr) (G.block pk (World.block_lt_of_cell? _ _ ck) (by intro e; have := Option.some.inj e; omega))).trans fk)
        go_roundw
        case rel => exact ⟨k + 1, by omega, by go_num, H.next G R2 ER.out d1 d2 d3 d4 d5 d6 d7⟩
        case measure => simp [intOf]; omega
    · have rd := H.rd
      rw [List.drop_eq_nil_of_le (by rw [N.len]; omega)] at rd
      simp only [List.flatMap_nil, List.nil_append] at rd
      go_wp2_with fail
      go_end0
      exact ⟨rfl, H.fr, H.ck, rd⟩
end Go.Proofs.Ytbdppelkefhieaa.octC
