/-
  What digit, nibble, and the two Hexes do.
-/
import Derived.Test.YtbdppelkefhieaaOctD
import Derived.Test.YtbdppelkefhieaaHexM
import Derived.Deep.RegionLaw
namespace Go.Proofs.Ytbdppelkefhieaa.hexC
open Go.ChangeShapes Go.WideShapes Go.ChangeAt Go.RowKit
open Go.Proofs.Ytbdppelkefhieaa.memC Go.Proofs.Ytbdppelkefhieaa.hexM Go.Proofs.Ytbdppelkefhieaa.octC
set_option linter.unusedVariables false
theorem ret_dig {a c : Int} {b : Bool} (h : a = c) : Ending.returned (.tuple #[.int .u8 a, .bool b]) = .returned (.tuple #[.int .u8 c, .bool b]) := by rw [h]
theorem digit_ok (c : Int) (w : World) (h0 : 0 ≤ c) (h1 : c ≤ 255) (h : nib c ≤ 15) :
    Calls Try.prog 30 #[.int .u8 c] w fun e w' => e = .returned (.tuple #[.int .u8 (nib c), .bool true]) ∧ w = w' := by
  have H := Lib.hid h
  clear h
  go_enter Try.func30, Try.ntmps30
  go_wp2
  all_goals
    go_ret2
    first
    | exact ⟨ret_dig (by unfold nib; (repeat' split) <;> omega), rfl⟩
    | (exfalso; have H := H.out; unfold nib at H; (repeat' split at H) <;> omega)
theorem digit_no (c : Int) (w : World) (h0 : 0 ≤ c) (h1 : c ≤ 255) (h : ¬ nib c ≤ 15) :
    Calls Try.prog 30 #[.int .u8 c] w fun e w' => e = .returned (.tuple #[.int .u8 0, .bool false]) ∧ w = w' := by
  have H := Lib.hid h
  clear h
  go_enter Try.func30, Try.ntmps30
  go_wp2
  all_goals
    go_ret2
    first
    | exact ⟨rfl, rfl⟩
    | (exfalso; have H := H.out; unfold nib at H; (repeat' split at H) <;> omega)
theorem nibble_any (c : Int) (w : World) (h0 : 0 ≤ c) (h1 : c ≤ 255) :
    Calls Try.prog 31 #[.int .u8 c] w fun e w' => e = .returned (.int .u8 (nib c)) ∧ w = w' := by
  go_enter Try.func31, Try.ntmps31
  go_wp2
  all_goals
    go_ret
    exact ⟨ret_int (by unfold nib; (repeat' split) <;> omega), rfl⟩
section
variable {P : Program} {ops : Array Oper} {rest : List Oper} {o : Oper} {a : Act} {Q : Exit → Act → World → Prop} {K : Act → World → Prop} {E : Prop}
/-- append(own, numbers...), as a step of a region that draws -/
theorem step_app {k : IntKind} (w : World) (hgd : o.guard = none) (s x : Operand) (t : TypeId)
    (ho : o.op = .call { callee := .builtin .append, args := #[s, x], argTypes := #[t, t] })
    (e : TypeId) (i : TypeInfo) (z : Value) (bytes : Nat) (ht : P.underlying t = some (.slice e)) (hi : P.info? e = some i) (hz : i.zero = some z)
    (hsize : i.size = 1) (hby : i.bytes = bytes) (hzs : z.cells.size = 1) (base : Nat) (v : Value) (xs : List Int) (hs : a.eval s = v) (hown : Own k e w base v xs)
    (B : Nat) (A : Option Addr) (m c : Nat) (news : List Int) (hx : a.eval x = .slice A m c) (hr : Nums k w B A m news) (h63 : xs.length + m ≤ maxLen) (hbytes : (xs.length + m) * bytes ≤ 140737488355328) (hbase : base ≤ w.heap.size)
    (h : ∀ v' w', Own k e w' base v' (xs ++ news) → w.grownBy w' v.ownBlock → K (a.put o.dst v') w') :
    if Region.wanted o (yielded ops a.tmps) = true then Oper.wp P o a w K Q else E := by
  have hw : Region.wanted o (yielded ops a.tmps) = true := by simp [Region.wanted, hgd]
  rw [if_pos hw]
  obtain ⟨v', w', hrun, h2, h3⟩ := run_app (P := P) w t o.type e i z bytes ht hi hz hsize hby hzs base v xs hown B A m c news hr h63 hbytes hbase
  unfold Oper.wp execOp
  simp only [ho, resolve, invoke, builtin, Sem.run_bind, Sem.run_pure, Result.andThen_ok, List.map_toArray, List.map_cons, List.map_nil, hs, hx, hrun]
  exact h v' w' h2 h3
end
theorem list16 {h : Int} (h0 : 0 ≤ h) (h1 : h ≤ 15) : h = 0 ∨ h = 1 ∨ h = 2 ∨ h = 3 ∨ h = 4 ∨ h = 5 ∨ h = 6 ∨ h = 7 ∨ h = 8 ∨ h = 9 ∨ h = 10 ∨ h = 11 ∨ h = 12 ∨ h = 13 ∨ h = 14 ∨ h = 15 := by omega
theorem sign_at {h : Int} (h0 : 0 ≤ h) (h1 : h ≤ 15) (w : World) :
    (Instr.index 9 (.string ⟨#[48, 49, 50, 51, 52, 53, 54, 55, 56, 57, 97, 98, 99, 100, 101, 102]⟩) (.int .u8 h)).run Try.prog w = .ok (.int .u8 (hexD h)) w := by
  rcases list16 h0 h1 with rfl | rfl | rfl | rfl | rfl | rfl | rfl | rfl | rfl | rfl | rfl | rfl | rfl | rfl | rfl | rfl <;> kernel_rfl
theorem and15 {c : Int} (h0 : 0 ≤ c) (h1 : c ≤ 255) : bits .and .u8 c 15 = c % 16 := by
  rw [Go.u8_and c 15 h0 (by omega) (by omega) (by omega)]
  have e : (15 : Int).toNat = 2 ^ 4 - 1 := by decide
  rw [e, Nat.and_two_pow_sub_one_eq_mod]
  omega
theorem hexL_take (l : List Int) (k : Nat) (hk : k < l.length) : hexL (l.take (k + 1)) = hexL (l.take k) ++ [hexD (l.getD k 0 / 16), hexD (l.getD k 0 % 16)] := by
  rw [List.take_succ_eq_append_getElem hk]
  unfold hexL
  rw [List.flatMap_append]
  simp [List.getD_eq_getElem?_getD, List.getElem?_eq_getElem hk]
theorem str_at {w : World} {B : Nat} {A : Option Addr} {n : Nat} {xs : List Int} (h : Nums .u8 w B A n xs) (c : Nat) :
    (convert 22 9 (.slice A n c)).run Try.prog w = .ok (.string (strOfNums xs)) w :=
  run_string h c _ _ _ Try.underlying22 Try.underlying5 Try.underlying9
/-- the digits of the first bytes -/
def HexR (w wr : World) (bs : List Int) (v : Value) (k : Nat) : Prop := Own .u8 5 wr w.heap.size v (hexL (bs.take k)) ∧ Below w.heap.size w wr
set_option maxRecDepth 100000 in
set_option maxHeartbeats 1000000 in
theorem hex_any (A : Option Addr) (n c : Nat) (bs : List Int) (w : World) (hb : Nums .u8 w w.heap.size A n bs) (hn : n ≤ 10000) (hy : ∀ x ∈ bs, Byte x) :
    Calls Try.prog 16 #[.slice A n c] w fun e w' => e = .returned (.string (strOfNums (hexL bs))) ∧ Below w.heap.size w w' := by
  obtain ⟨i0, hi0, hz0, hz1, hz2⟩ := info_parts byte_info
  have T1 := Lib.hid hi0; have T2 := Lib.hid hz0; have T3 := Lib.hid hz1; have T4 := Lib.hid hz2
  have b2 : i0.bytes * (2 * n) ≤ 281474976710656 := by rw [hz2]; omega
  clear hi0 hz0 hz1 hz2
  go_enter Try.func16, Try.ntmps16
  go_wp2_with (at_make; (refine wpList_make_own _ rfl (.const (.int .i64 0)) (.tmp 8) _ rfl w.heap.size 5 i0 _ 1 Try.underlying22 T1.out T2.out T3.out .i64 .i64 _ (2 * n) rfl rfl (by omega) b2 (by simp only [maxLen]; omega) (Nat.le_refl _) ?_)
               intro w1 hown1 hg1
               have O1 : Own .u8 5 w1 w.heap.size (.slice (some ⟨w.heap.size, 0, none⟩) 0 (2 * n)) [] := hown1
               have B1 : Below w.heap.size w w1 := grown_below hg1 (Nat.le_refl _) (by nofun)
               clear hown1 hg1)
  go_loopw [3, 12] (fun v i wr => ∃ k : Nat, k ≤ n ∧ i = .int .i64 k ∧ HexR w wr bs v k) (fun _ i _ => n - (intOf i).toNat)
  case atStart => exact ⟨0, Nat.zero_le _, rfl, O1, B1⟩
  case round =>
    obtain ⟨k, hk, rfl, O, Bw⟩ := hrel
    by_cases hlt : k < n
    · obtain ⟨b, o, rfl, hbb, hcell⟩ := hb.cell hlt
      have hyk := getD_byte hy (k := k) (by rw [hb.len]; exact hlt)
      have HT := Lib.hid (hexL_take bs k (by rw [hb.len]; exact hlt))
      have hc : wr.cell? ⟨b, o + k, none⟩ = some (.int .u8 (bs.getD k 0)) := (Bw.cell (p := ⟨b, o + k, none⟩) hbb).trans hcell
      obtain ⟨y, ey⟩ : ∃ y, y = bs.getD k 0 := ⟨_, rfl⟩
      rw [← ey] at hyk HT hc
      obtain ⟨y0, y1⟩ := hyk
      obtain ⟨p, ep⟩ : ∃ p, p = y / 16 := ⟨_, rfl⟩
      obtain ⟨q, eq⟩ : ∃ q, q = y % 16 := ⟨_, rfl⟩
      have s1 := sign_at (h := p) (by omega) (by omega)
      have s2 := sign_at (h := q) (by omega) (by omega)
      rw [← ep, ← eq] at HT
      have ha : bits .and .u8 y 15 = q := (and15 y0 y1).trans eq.symm
      have hp : y / 16 = p := ep.symm
      have p0 : 0 ≤ p := by omega
      have p1 : p ≤ 15 := by omega
      have q0 : 0 ≤ q := by omega
      have q1 : q ≤ 15 := by omega
      have HL : (hexL (bs.take k)).length ≤ 20000 := by rw [hexL_len, List.length_take]; omega
      clear ey hcell ep eq
      go_wp2_with fail
      go_region_law ((refine step_app _ rfl (.tmp 16) (.tmp 23) _ rfl 5 i0 _ 1 Try.underlying22 T1.out T2.out T3.out T4.out rfl w.heap.size _ (hexL (bs.take k)) rfl (by exact O.keep fun g _ hg => Below.heap_alloc _ _ _ hg) (wr.heap.size + 1) _ 2 2 [hexD p, hexD q] rfl (by exact ⟨rfl, fun _ => ⟨_, 0, rfl, Nat.lt_succ_self _, fun i hi => by rcases (show i = 0 ∨ i = 1 by omega) with rfl | rfl <;> go_simp⟩⟩) (by simp only [maxLen]; omega) (by omega) (by exact Nat.le_trans Bw.size (by simp)) ?_
                      intro v' w' O' hg'))
      all_goals
        have X : Below w.heap.size w (wr.alloc (.cells #[.int .u8 (hexD p), .int .u8 (hexD q)] 5)) := Bw.alloc Bw.size _
        have Bn : Below w.heap.size w w' := by
          refine Below.grown ?_ hg' ?_ ?_
          · exact ⟨X.os, X.tape, X.output, X.size, X.block⟩
          · exact X.size
          · exact fun g hg => (O.blk g hg).1
        clear hg' X s1 s2
        go_wp2_with fail
        go_roundw
        case rel => exact ⟨k + 1, by omega, by go_num, by rw [HexR, HT.out]; exact ⟨O', Bn⟩⟩
        case measure => simp [intOf]; omega
    · have e : k = n := by omega
      subst e
      have e2 : bs.take k = bs := List.take_of_length_le (by rw [hb.len]; omega)
      rw [e2] at O
      obtain ⟨A', c', rfl, h1, h2, N⟩ := O.form
      have cv := str_at N c'
      have HB := Lib.hid e2
      clear e2
      go_wp2_with fail
      go_ret
      exact ⟨rfl, Bw⟩

theorem sign_cut {h : Int} (h0 : 0 ≤ h) (h1 : h ≤ 15) (w : World) :
    (Instr.slice 9 (.string ⟨#[48, 49, 50, 51, 52, 53, 54, 55, 56, 57, 97, 98, 99, 100, 101, 102]⟩) (some (.int .u8 h)) (some (.int .u8 (h + 1))) none).run Try.prog w = .ok (.string (strOfNums [hexD h])) w := by
  rcases list16 h0 h1 with rfl | rfl | rfl | rfl | rfl | rfl | rfl | rfl | rfl | rfl | rfl | rfl | rfl | rfl | rfl | rfl <;> kernel_rfl
end Go.Proofs.Ytbdppelkefhieaa.hexC
