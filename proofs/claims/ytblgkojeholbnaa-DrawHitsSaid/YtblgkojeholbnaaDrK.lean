/-
  The document's Pick.
-/
import Derived.Test.YtblgkojeholbnaaDrD
namespace Go.Proofs.Ytblgkojeholbnaa.ieC
open Go.ChangeShapes Go.WideShapes Go.ChangeAt Go.RowKit
open Go.Proofs.Ytblgkojeholbnaa.memC Go.Proofs.Ytblgkojeholbnaa.genC Go.Proofs.Ytblgkojeholbnaa.butC Go.Proofs.Ytblgkojeholbnaa.freeC
set_option linter.unusedVariables false
/-- a call's value, and that what was there stands -/
def RetB (w : World) (v : Value) (e : Ending) (w' : World) : Prop := e = .returned v ∧ Below w.heap.size w w'
def lastF : List Nat → Nat → Int → Int
  | [], _, a => a
  | w :: r, i, a => lastF r (i + 1) (if 0 < weightB w then (i : Int) else a)
/-- the last weight above 0; -1: there is none -/
def lastB (ws : List Nat) : Int := lastF ws 0 (-1)
theorem lastF_snoc : ∀ (l : List Nat) (w i : Nat) (a : Int), lastF (l ++ [w]) i a = if 0 < weightB w then ((i + l.length : Nat) : Int) else lastF l i a
  | [], w, i, a => by simp [lastF]
  | x :: r, w, i, a => by
    rw [List.cons_append]
    unfold lastF
    rw [lastF_snoc r w (i + 1)]
    simp only [List.length_cons]
    rw [show i + 1 + r.length = i + (r.length + 1) by omega]
theorem lastB_snoc (l : List Nat) (w : Nat) : lastB (l ++ [w]) = if 0 < weightB w then (l.length : Int) else lastB l := by
  unfold lastB
  rw [lastF_snoc, Nat.zero_add]
theorem lastB_lt : ∀ (l : List Nat), -1 ≤ lastB l ∧ lastB l < l.length := by
  have key : ∀ (l : List Nat) (i : Nat) (a : Int), -1 ≤ a → a < i → -1 ≤ lastF l i a ∧ lastF l i a < (i + l.length : Nat) := by
    intro l
    induction l with
    | nil => intro i a h1 h2; exact ⟨h1, by simpa [lastF] using h2⟩
    | cons w r ih =>
      intro i a h1 h2
      unfold lastF
      have := ih (i + 1) (if 0 < weightB w then (i : Int) else a) (by split <;> omega) (by split <;> omega)
      rw [List.length_cons, show i + (r.length + 1) = i + 1 + r.length by omega]
      exact this
  intro l
  have := key l 0 (-1) (by omega) (by omega)
  rw [Nat.zero_add] at this
  exact this
/-- the first sum that a test holds of -/
def pickQ (Q : Nat → Bool) : Nat → List Nat → Nat → Option Nat
  | _, [], _ => none
  | a, w :: r, i => if Q (plus a (weightB w)) = true then some i else pickQ Q (plus a (weightB w)) r (i + 1)
/-- whether a product (or what is no number) is below a sum -/
def belowB (p : Option Nat) (s : Nat) : Bool := match p with | some v => decide (v < s) | none => false
/-- what is picked -/
def pickB (d : Nat) (ws : List Nat) : Int :=
  if lastB ws < 0 then -1 else
  match pickQ (belowB (Ieee.double.mul (drawB d) (sumB ws))) 0 ws 0 with
  | some i => i
  | none => lastB ws
theorem take_snoc {ws : List Nat} {i x : Nat} (h : ws[i]? = some x) : ws.take (i + 1) = ws.take i ++ [x] := by rw [List.take_add_one, h]; rfl
/-- a row of floats -/
structure FlsE (w : World) (B : Nat) (A : Option Addr) (n : Nat) (ws : List Nat) : Prop where
  len : ws.length = n
  at_ : 0 < n → ∃ b o, A = some ⟨b, o, none⟩ ∧ b < B ∧ ∀ i x, ws[i]? = some x → w.cell? ⟨b, o + i, none⟩ = some (.float .f64 x)
  ok : ∀ x ∈ ws, x < 18446744073709551616
theorem FlsE.below {w w' : World} {B B' : Nat} {A : Option Addr} {n : Nat} {ws : List Nat} (h : FlsE w B A n ws) (hb : Below B w w') (hB : B ≤ B') : FlsE w' B' A n ws :=
  ⟨h.len, fun h0 => by
    obtain ⟨b, o, e, h1, hc⟩ := h.at_ h0
    exact ⟨b, o, e, by omega, fun i x hi => (hb.cell (p := ⟨b, o + i, none⟩) h1).trans (hc i x hi)⟩, h.ok⟩
/-- a product that is no number: some bits of one -/
theorem nan_cut (x y t : Nat) : ∃ s f, Ieee.double.read ((Question.nanBits .f64 x y).cut t) = .nan s f := by
  have e : (Question.nanBits .f64 x y).cut t = (t % 2) * 2 ^ 63 + 0x7ff0000000000000 + 1 + (t / 2) % (2 ^ 52 - 1) := rfl
  rw [e]
  have h1 : t % 2 = 0 ∨ t % 2 = 1 := by omega
  have h2 : (t / 2) % (2 ^ 52 - 1) < 4503599627370495 := Nat.mod_lt _ (by decide)
  generalize (t / 2) % (2 ^ 52 - 1) = f at *
  rcases h1 with h1 | h1
  · rw [h1]
    obtain ⟨g, hg⟩ := nan_read (x := 0 * 2 ^ 63 + 0x7ff0000000000000 + 1 + f) (by omega) (by omega)
    exact ⟨_, _, hg⟩
  · rw [h1]
    have q : 9223372036854775808 ≤ 1 * 2 ^ 63 + 0x7ff0000000000000 + 1 + f := by omega
    rcases neg_read (x := 1 * 2 ^ 63 + 0x7ff0000000000000 + 1 + f) q (by omega) with ⟨m, pl, h⟩ | h | ⟨g, h⟩
    · exfalso
      unfold Ieee.Format.read at h
      simp only [d_sign, d_binade, d_inf, d_least] at h
      rw [if_neg (by omega), if_neg (by omega)] at h
      split at h <;> cases h
    · exfalso
      unfold Ieee.Format.read at h
      simp only [d_sign, d_binade, d_inf, d_least] at h
      rw [if_neg (by omega), if_neg (by omega), if_neg (by omega)] at h
      cases h
    · exact ⟨_, _, h⟩
theorem wpList_nan {P : Program} {ops : Array Oper} {rest : List Oper} {o : Oper} {a : Act} {w : World} {Q : Exit → Act → World → Prop} (hg : o.guard = none) {T R : TypeId} (x y : Operand) (ho : o.op = .binOp .mul T x y R) {u v : Nat}
    (hx : a.eval x = .float .f64 u) (hy : a.eval y = .float .f64 v) (hn : Ieee.double.mul u v = none)
    (h : ∀ b w', (∃ s f, Ieee.double.read b = .nan s f) → Below w.heap.size w w' → wpList P ops Q rest (a.put o.dst (.float .f64 b)) w') : wpList P ops Q (o :: rest) a w := by
  refine wpList_plain hg fun K hK => ?_
  have hn2 : FloatKind.f64.format.mul u v = none := hn
  unfold Oper.wp execOp
  simp [ho, hx, hy, binOp, Op.floatArith, hn2, Result.andThen]
  exact hK _ _ (h _ _ (nan_cut _ _ _) (Below.refl _ _).drew)
/-! ### the walk -/
theorem pickQ_cons (Q : Nat → Bool) (a w : Nat) (r : List Nat) (i : Nat) : pickQ Q a (w :: r) i = if Q (plus a (weightB w)) = true then some i else pickQ Q (plus a (weightB w)) r (i + 1) := rfl
set_option maxRecDepth 100000 in
set_option maxHeartbeats 2000000 in
theorem rpick_any {d : Nat} (hd : d < 18446744073709551616) (A : Option Addr) (n c : Nat) (ws : List Nat) (w : World) (h : FlsE w w.heap.size A n ws) (hn : n ≤ 1000000) :
    Calls Try.prog 23 #[.float .f64 d, .slice A n c] w (RetB w (.int .i64 (pickB d ws))) := by
  have HW := Lib.hid h
  have HN := Lib.hid hn
  have D1 := Lib.hid (fun w' => rdraw_any d w')
  have HD := Lib.hid (draw_le hd)
  have HSL := Lib.hid (sum_le h.ok)
  clear h hn hd
  go_enter Try.func23, Try.ntmps23
  go_upto_region 4 with fail
  go_loopw [5, 6, 7] (fun u v z wr => ∃ i : Nat, i ≤ n ∧ u = .float .f64 (sumB (ws.take i)) ∧ v = .int .i64 (lastB (ws.take i)) ∧ z = .int .i64 i ∧ wr = w) (fun u v z _ => n - (intOf z).toNat)
  case atStart => exact ⟨0, by omega, rfl, rfl, rfl, rfl⟩
  case round =>
    obtain ⟨i, hi, rfl, rfl, rfl, rfl⟩ := hrel
    by_cases hlt : i < n
    · have q6 : (i : Int) < (n : Int) := by omega
      have wi : IntKind.i64.wrap ((i : Int) + 1) = (i : Int) + 1 := IntWalk.i64_in _ (by have := HN.out; omega)
      obtain ⟨x, hx⟩ : ∃ x, ws[i]? = some x := ⟨_, List.getElem?_eq_getElem (by rw [HW.out.len]; exact hlt)⟩
      have ox := HW.out.ok x (List.mem_of_getElem? hx)
      obtain ⟨b1, o1, hA1, hb1, c1⟩ := HW.out.at_ (by omega)
      have c0 : wr.cell? ⟨b1, o1 + i, none⟩ = some (.float .f64 x) := c1 i x hx
      have RW := Lib.hid (fun w' => rweight_any ox w')
      have hs := sum_le (ws := ws.take i) (fun y hy => HW.out.ok y (List.mem_of_mem_take hy))
      obtain ⟨p1, p2, -, -⟩ := plus_all hs (weight_lt ox)
      have HSN := Lib.hid (show sumB (ws.take (i + 1)) = plus (sumB (ws.take i)) (weightB x) by rw [take_snoc hx, sumB_snoc])
      have HLN := Lib.hid (show lastB (ws.take (i + 1)) = if 0 < weightB x then (i : Int) else lastB (ws.take i) by rw [take_snoc hx, lastB_snoc, List.length_take, HW.out.len, Nat.min_eq_left (by omega)])
      have r1 := arith (op := .add) (x := sumB (ws.take i)) (y := weightB x) p1
      have hq0 : (FloatKind.f64.format.order (weightB x) 0 == some .gt) = decide (0 < weightB x) := gt0_all (by have := weight_lt ox; omega)
      have HI := Lib.hid hlt
      subst hA1
      generalize plus (sumB (ws.take i)) (weightB x) = PS at *
      generalize sumB (ws.take i) = SI at *
      generalize lastB (ws.take i) = LI at *
      generalize weightB x = WX at *
      by_cases hq : 0 < WX
      · rw [decide_eq_true hq] at hq0
        rw [if_pos hq] at HLN
        clear hi hlt hx ox hb1 c1 hs p1 p2 hq
        go_wp2_with (first
          | (go_at_call 34; (refine (RW.out _).mono ?_); rintro e w3 ⟨rfl, hw⟩; obtain rfl := hw.symm))
        go_roundw
        case rel => exact ⟨i + 1, HI.out, by rw [HSN.out], by rw [HLN.out], by simp, by first | rfl | trivial⟩
        case measure => have := HI.out; simp [intOf]; omega
      · rw [decide_eq_false hq] at hq0
        rw [if_neg hq] at HLN
        clear hi hlt hx ox hb1 c1 hs p1 p2 hq
        go_wp2_with (first
          | (go_at_call 34; (refine (RW.out _).mono ?_); rintro e w3 ⟨rfl, hw⟩; obtain rfl := hw.symm))
        go_roundw
        case rel => exact ⟨i + 1, HI.out, by rw [HSN.out], by rw [HLN.out], by simp, by first | rfl | trivial⟩
        case measure => have := HI.out; simp [intOf]; omega
    have ei : n = i := by omega
    subst ei
    have q6 : ¬ (n : Int) < (n : Int) := by omega
    rw [show ws.take n = ws from List.take_of_length_le (by rw [HW.out.len]; exact Nat.le_refl _)]
    clear hi hlt
    obtain ⟨Q, hQd⟩ : ∃ Q, Q = belowB (Ieee.double.mul (drawB d) (sumB ws)) := ⟨_, rfl⟩
    have PB0 := Lib.hid (show pickB d ws = if lastB ws < 0 then -1 else match pickQ Q 0 ws 0 with | some i => (i : Int) | none => lastB ws by rw [hQd]; rfl)
    have AT := at_all HD.out HSL.out
    generalize drawB d = DD at *
    by_cases hl : lastB ws < 0
    · have PB := Lib.hid (show pickB d ws = -1 by rw [PB0.out, if_pos hl])
      clear AT hQd
      go_wp2_with fail
      go_ret
      exact ⟨by rw [PB.out]; rfl, Below.refl _ _⟩
    have PB := Lib.hid (show pickB d ws = match pickQ Q 0 ws 0 with | some i => (i : Int) | none => lastB ws by rw [PB0.out, if_neg hl])
    generalize hSS : sumB ws = SS at *
    rcases AT with ⟨h1, -, -⟩ | ⟨v, h1, h2⟩
    · go_upto_region 12 with (first
        | (go_at_call 15; (refine (D1.out _).mono ?_); rintro e w3 ⟨rfl, hw⟩; obtain rfl := hw.symm)
        | (refine wpList_nan rfl (.tmp 34) (.tmp 35) rfl rfl rfl h1 ?_; intro bb w9 hnan hb9; have B9 := Lib.hid hb9; have HNAN := Lib.hid hnan; clear hb9 hnan))
      have hQ : ∀ s, s ≤ 9218868437227405312 → (Ieee.double.order bb s == some .lt) = Q s := fun s _ => by
        obtain ⟨s1, f1, hr⟩ := HNAN.out
        rw [order_nan hr, hQd, h1]; rfl
      clear h1 hQd PB0 HSL hSS D1
      have HQ := Lib.hid (show ∀ s, s ≤ 9218868437227405312 → (FloatKind.f64.format.order bb s == some .lt) = Q s from fun s hs => hQ s hs)
      clear hQ
      go_upto_region 14 with fail
      go_loopw [9, 10] (fun u v wr => ∃ i : Nat, i ≤ n ∧ u = .float .f64 (sumB (ws.take i)) ∧ v = .int .i64 i ∧ pickQ Q 0 ws 0 = pickQ Q (sumB (ws.take i)) (ws.drop i) i ∧ wr = w9) (fun u v _ => n - (intOf v).toNat)
      case atStart => exact ⟨0, by omega, rfl, rfl, rfl, rfl⟩
      case round =>
        obtain ⟨i, hi, rfl, rfl, hpk, rfl⟩ := hrel
        have HPK := Lib.hid hpk
        clear hpk
        by_cases hlt : i < n
        rotate_left
        · have ei : n = i := by omega
          subst ei
          have q6 : ¬ (n : Int) < (n : Int) := by omega
          have hend := Lib.hid (show pickB d ws = lastB ws by
            have h1 := HPK.out
            rw [show ws.drop n = [] from List.drop_of_length_le (by rw [HW.out.len]; exact Nat.le_refl _)] at h1
            rw [PB.out, h1]; rfl)
          clear hi hlt
          go_wp2_with fail
          go_ret
          exact ⟨by rw [hend.out]; rfl, B9.out⟩
        have q6 : (i : Int) < (n : Int) := by omega
        have wi : IntKind.i64.wrap ((i : Int) + 1) = (i : Int) + 1 := IntWalk.i64_in _ (by have := HN.out; omega)
        obtain ⟨x, hx⟩ : ∃ x, ws[i]? = some x := ⟨_, List.getElem?_eq_getElem (by rw [HW.out.len]; exact hlt)⟩
        have ox := HW.out.ok x (List.mem_of_getElem? hx)
        obtain ⟨b1, o1, hA1, hb1, c1⟩ := HW.out.at_ (by omega)
        have c0 : wr.cell? ⟨b1, o1 + i, none⟩ = some (.float .f64 x) := (B9.out.cell (p := ⟨b1, o1 + i, none⟩) hb1).trans (c1 i x hx)
        have RW := Lib.hid (fun w' => rweight_any ox w')
        have hs := sum_le (ws := ws.take i) (fun y hy => HW.out.ok y (List.mem_of_mem_take hy))
        obtain ⟨p1, p2, -, -⟩ := plus_all hs (weight_lt ox)
        have HSN := Lib.hid (show sumB (ws.take (i + 1)) = plus (sumB (ws.take i)) (weightB x) by rw [take_snoc hx, sumB_snoc])
        have r1 := arith (op := .add) (x := sumB (ws.take i)) (y := weightB x) p1
        have HDR := Lib.hid (show ws.drop i = x :: ws.drop (i + 1) by
          obtain ⟨h2, h3⟩ := List.getElem?_eq_some_iff.1 hx
          rw [List.drop_eq_getElem_cons h2, h3])
        have hq0 := HQ.out _ p2
        have HI := Lib.hid hlt
        subst hA1
        generalize hPS : plus (sumB (ws.take i)) (weightB x) = PS at *
        generalize hSI : sumB (ws.take i) = SI at *
        generalize hWX : weightB x = WX at *
        cases hq : Q PS
        · rw [hq] at hq0
          have HNX := Lib.hid (show pickQ Q 0 ws 0 = pickQ Q PS (ws.drop (i + 1)) (i + 1) by
            rw [HPK.out, HDR.out]
            rw [pickQ_cons, hWX, hPS, hq, if_neg (by simp)])
          clear hi hlt hx ox hb1 c1 hs p1 p2 hq hPS hSI hWX
          go_wp2_with (first
            | (go_at_call 34; (refine (RW.out _).mono ?_); rintro e w3 ⟨rfl, hw⟩; obtain rfl := hw.symm))
          go_roundw
          case rel => exact ⟨i + 1, HI.out, by rw [HSN.out], by simp, by rw [HSN.out]; exact HNX.out, by first | rfl | trivial⟩
          case measure => have := HI.out; simp [intOf]; omega
        · rw [hq] at hq0
          have hend := Lib.hid (show pickB d ws = (i : Int) by
            have h1 : pickQ Q 0 ws 0 = some i := by
              rw [HPK.out, HDR.out]
              rw [pickQ_cons, hWX, hPS, hq, if_pos rfl]
            rw [PB.out, h1])
          clear hi hlt hx ox hb1 c1 hs p1 p2 hq hPS hSI hWX
          go_wp2_with (first
            | (go_at_call 34; (refine (RW.out _).mono ?_); rintro e w3 ⟨rfl, hw⟩; obtain rfl := hw.symm))
          go_ret
          exact ⟨by rw [hend.out]; rfl, B9.out⟩
    · have r1 := arith (op := .mul) (x := DD) (y := SS) h1
      have hQ : ∀ s, s ≤ 9218868437227405312 → (Ieee.double.order v s == some .lt) = Q s := fun s hs => by
        rw [order_all h2 hs, hQd, h1]
        unfold belowB
        rcases Nat.lt_trichotomy v s with q | q | q
        · rw [Nat.compare_eq_lt.2 q]; simp [q]
        · rw [Nat.compare_eq_eq.2 q]; simp; omega
        · rw [Nat.compare_eq_gt.2 q]; simp; omega
      clear h1 h2 hQd PB0 HSL hSS
      go_upto_region 12 with (first
        | (go_at_call 15; (refine (D1.out _).mono ?_); rintro e w3 ⟨rfl, hw⟩; obtain rfl := hw.symm))
      clear r1 D1
      have B9 := Lib.hid (Below.refl wr.heap.size wr)
      have HQ := Lib.hid (show ∀ s, s ≤ 9218868437227405312 → (FloatKind.f64.format.order v s == some .lt) = Q s from fun s hs => hQ s hs)
      clear hQ
      go_upto_region 14 with fail
      go_loopw [9, 10] (fun u vv wz => ∃ i : Nat, i ≤ n ∧ u = .float .f64 (sumB (ws.take i)) ∧ vv = .int .i64 i ∧ pickQ Q 0 ws 0 = pickQ Q (sumB (ws.take i)) (ws.drop i) i ∧ wz = wr) (fun u vv _ => n - (intOf vv).toNat)
      case atStart => exact ⟨0, by omega, rfl, rfl, rfl, rfl⟩
      case round =>
        obtain ⟨i, hi, rfl, rfl, hpk, rfl⟩ := hrel
        have HPK := Lib.hid hpk
        clear hpk
        by_cases hlt : i < n
        rotate_left
        · have ei : n = i := by omega
          subst ei
          have q6 : ¬ (n : Int) < (n : Int) := by omega
          have hend := Lib.hid (show pickB d ws = lastB ws by
            have h1 := HPK.out
            rw [show ws.drop n = [] from List.drop_of_length_le (by rw [HW.out.len]; exact Nat.le_refl _)] at h1
            rw [PB.out, h1]; rfl)
          clear hi hlt
          go_wp2_with fail
          go_ret
          exact ⟨by rw [hend.out]; rfl, B9.out⟩
        have q6 : (i : Int) < (n : Int) := by omega
        have wi : IntKind.i64.wrap ((i : Int) + 1) = (i : Int) + 1 := IntWalk.i64_in _ (by have := HN.out; omega)
        obtain ⟨x, hx⟩ : ∃ x, ws[i]? = some x := ⟨_, List.getElem?_eq_getElem (by rw [HW.out.len]; exact hlt)⟩
        have ox := HW.out.ok x (List.mem_of_getElem? hx)
        obtain ⟨b1, o1, hA1, hb1, c1⟩ := HW.out.at_ (by omega)
        have c0 : wr.cell? ⟨b1, o1 + i, none⟩ = some (.float .f64 x) := (B9.out.cell (p := ⟨b1, o1 + i, none⟩) hb1).trans (c1 i x hx)
        have RW := Lib.hid (fun w' => rweight_any ox w')
        have hs := sum_le (ws := ws.take i) (fun y hy => HW.out.ok y (List.mem_of_mem_take hy))
        obtain ⟨p1, p2, -, -⟩ := plus_all hs (weight_lt ox)
        have HSN := Lib.hid (show sumB (ws.take (i + 1)) = plus (sumB (ws.take i)) (weightB x) by rw [take_snoc hx, sumB_snoc])
        have r1 := arith (op := .add) (x := sumB (ws.take i)) (y := weightB x) p1
        have HDR := Lib.hid (show ws.drop i = x :: ws.drop (i + 1) by
          obtain ⟨h2, h3⟩ := List.getElem?_eq_some_iff.1 hx
          rw [List.drop_eq_getElem_cons h2, h3])
        have hq0 := HQ.out _ p2
        have HI := Lib.hid hlt
        subst hA1
        generalize hPS : plus (sumB (ws.take i)) (weightB x) = PS at *
        generalize hSI : sumB (ws.take i) = SI at *
        generalize hWX : weightB x = WX at *
        cases hq : Q PS
        · rw [hq] at hq0
          have HNX := Lib.hid (show pickQ Q 0 ws 0 = pickQ Q PS (ws.drop (i + 1)) (i + 1) by
            rw [HPK.out, HDR.out]
            rw [pickQ_cons, hWX, hPS, hq, if_neg (by simp)])
          clear hi hlt hx ox hb1 c1 hs p1 p2 hq hPS hSI hWX
          go_wp2_with (first
            | (go_at_call 34; (refine (RW.out _).mono ?_); rintro e w3 ⟨rfl, hw⟩; obtain rfl := hw.symm))
          go_roundw
          case rel => exact ⟨i + 1, HI.out, by rw [HSN.out], by simp, by rw [HSN.out]; exact HNX.out, by first | rfl | trivial⟩
          case measure => have := HI.out; simp [intOf]; omega
        · rw [hq] at hq0
          have hend := Lib.hid (show pickB d ws = (i : Int) by
            have h1 : pickQ Q 0 ws 0 = some i := by
              rw [HPK.out, HDR.out]
              rw [pickQ_cons, hWX, hPS, hq, if_pos rfl]
            rw [PB.out, h1])
          clear hi hlt hx ox hb1 c1 hs p1 p2 hq hPS hSI hWX
          go_wp2_with (first
            | (go_at_call 34; (refine (RW.out _).mono ?_); rintro e w3 ⟨rfl, hw⟩; obtain rfl := hw.symm))
          go_ret
          exact ⟨by rw [hend.out]; rfl, B9.out⟩
end Go.Proofs.Ytblgkojeholbnaa.ieC
