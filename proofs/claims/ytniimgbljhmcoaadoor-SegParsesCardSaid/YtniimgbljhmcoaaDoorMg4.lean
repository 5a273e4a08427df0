/-
  2 texts of a proof, joined.
-/
import Derived.Test.YtniimgbljhmcoaaDoorMg2
import Derived.Test.YtniimgbljhmcoaaDoorMg3

/-
  Options of segments over numbers: their bytes, how many they are, whether they may be; how bytes are read as options, and that what is laid is read.
-/
namespace Go.Proofs.YtniimgbljhmcoaaDoor.opC
open Go.Proofs.YtniimgbljhmcoaaDoor.genC
open Go.Proofs.YtniimgbljhmcoaaDoor.octC (numL getZ)
set_option linter.unusedVariables false
/-- options -/
structure Opt where
  hm : Bool
  ms : Int
  hs : Bool
  sc : Int
  so : Bool
  sk : List (Int × Int)
  ht : Bool
  va : Int
  ec : Int
  ha : Bool
  ki : Int
  ni : Int
  mac : List Int
def U32 (x : Int) : Prop := 0 ≤ x ∧ x ≤ 4294967295
structure Opt.Ok (o : Opt) : Prop where
  ms : 0 ≤ o.ms ∧ o.ms ≤ 65535
  sc : Byte o.sc
  sk : ∀ p ∈ o.sk, U32 p.1 ∧ U32 p.2
  va : U32 o.va
  ec : U32 o.ec
  ki : Byte o.ki
  ni : Byte o.ni
  lm : o.mac.length = 12
  ym : ∀ x ∈ o.mac, Byte x
def zOpt : Opt := ⟨false, 0, false, 0, false, [], false, 0, 0, false, 0, 0, List.replicate 12 0⟩
theorem zOpt_ok : zOpt.Ok := by
  refine ⟨by decide, by unfold Byte; decide, fun p hp => (by cases hp), by unfold U32; decide, by unfold U32; decide, by unfold Byte; decide, by unfold Byte; decide, rfl, fun x hx => ?_⟩
  rw [List.eq_of_mem_replicate hx]; unfold Byte; omega
def kinds : List Int := [2, 3, 4, 8, 5, 29]
/-- is there an option of a kind? -/
def hasB (o : Opt) (k : Int) : Bool :=
  if k = 2 then o.hm else if k = 3 then o.hs else if k = 4 then o.so else if k = 8 then o.ht else if k = 5 then decide (0 < o.sk.length) else if k = 29 then o.ha else false
/-- how many bytes an option of a kind has -/
def sizeK (k : Int) (m : Nat) : Nat :=
  if k = 2 then 4 else if k = 3 then 3 else if k = 4 then 2 else if k = 8 then 10 else if k = 5 then 2 + 8 * m else if k = 29 then 16 else 0
def skL (l : List (Int × Int)) : List Int := l.flatMap fun p => numL 4 p.1 ++ numL 4 p.2
/-- what it tells -/
def toldL (o : Opt) (k : Int) : List Int :=
  if k = 2 then numL 2 o.ms else if k = 3 then [o.sc] else if k = 4 then [] else if k = 8 then numL 4 o.va ++ numL 4 o.ec else if k = 5 then skL o.sk else if k = 29 then o.ki :: o.ni :: o.mac else []
def pieceL (o : Opt) (k : Int) : List Int := if hasB o k = true then k :: ((sizeK k o.sk.length % 256 : Nat) : Int) :: toldL o k else []
def pieceN (o : Opt) (k : Int) : Nat := if hasB o k = true then sizeK k o.sk.length else 0
def bodyL (o : Opt) : List Int := kinds.flatMap (pieceL o)
def bodyN (o : Opt) : Nat := (kinds.map (pieceN o)).sum
def padN (n : Nat) : Nat := (4 - n % 4) % 4
def layL (o : Opt) : List Int := bodyL o ++ List.replicate (padN (bodyN o)) 0
def sizeN (o : Opt) : Nat := bodyN o + padN (bodyN o)
/-- they tell nothing of what they do not have -/
def keptB (o : Opt) : Bool := (o.hm || decide (o.ms = 0)) && ((o.hs || decide (o.sc = 0)) && ((o.ht || (decide (o.va = 0) && decide (o.ec = 0))) && (o.ha || (decide (o.ki = 0) && (decide (o.ni = 0) && decide (o.mac = List.replicate 12 0))))))
def mayB (o : Opt) : Bool := keptB o && (decide (o.sc ≤ 14) && (decide (o.sk.length ≤ 4) && decide (sizeN o ≤ 40)))
def layE (o : Opt) : Int := if mayB o = true then 0 else 1
def sameB (a b : Opt) : Bool :=
  decide (a.hm = b.hm) && (decide (a.ms = b.ms) && (decide (a.hs = b.hs) && (decide (a.sc = b.sc) && (decide (a.so = b.so) && (decide (a.sk = b.sk) && (decide (a.ht = b.ht) && (decide (a.va = b.va) && (decide (a.ec = b.ec) && (decide (a.ha = b.ha) && (decide (a.ki = b.ki) && (decide (a.ni = b.ni) && decide (a.mac = b.mac))))))))))))
theorem sameB_iff {a b : Opt} : sameB a b = true ↔ a = b := by
  obtain ⟨a1, a2, a3, a4, a5, a6, a7, a8, a9, a10, a11, a12, a13⟩ := a
  obtain ⟨b1, b2, b3, b4, b5, b6, b7, b8, b9, b10, b11, b12, b13⟩ := b
  simp [sameB]
theorem sameB_self (a : Opt) : sameB a a = true := sameB_iff.2 rfl
/-- without what they do not have -/
def keptO (o : Opt) : Opt :=
  { o with ms := if o.hm then o.ms else 0, sc := if o.hs then o.sc else 0, va := if o.ht then o.va else 0, ec := if o.ht then o.ec else 0, ki := if o.ha then o.ki else 0, ni := if o.ha then o.ni else 0, mac := if o.ha then o.mac else List.replicate 12 0 }
theorem kept_same (o : Opt) : sameB (keptO o) o = keptB o := by
  obtain ⟨a1, a2, a3, a4, a5, a6, a7, a8, a9, a10, a11, a12, a13⟩ := o
  have c : ∀ x : Int, decide (0 = x) = decide (x = 0) := fun x => by by_cases h : x = 0 <;> simp [h, eq_comm]
  have c' : decide (List.replicate 12 0 = a13) = decide (a13 = List.replicate 12 0) := by by_cases h : a13 = List.replicate 12 0 <;> simp [h, eq_comm]
  cases a1 <;> cases a3 <;> cases a7 <;> cases a10 <;> simp only [sameB, keptO, keptB, if_true, if_false, decide_true, Bool.true_and, Bool.and_true, Bool.true_or, Bool.false_or, c, c', Bool.and_assoc, Bool.false_eq_true]
theorem keptO_ok {o : Opt} (h : o.Ok) : (keptO o).Ok := by
  obtain ⟨h1, h2, h3, h4, h5, h6, h7, h8, h9⟩ := h
  have hb : Byte 0 := by unfold Byte; omega
  have hu : U32 0 := by unfold U32; omega
  refine ⟨?_, ?_, h3, ?_, ?_, ?_, ?_, ?_, ?_⟩
  all_goals simp only [keptO]
  · split <;> first | exact h1 | omega
  · split <;> assumption
  · split <;> assumption
  · split <;> assumption
  · split <;> assumption
  · split <;> assumption
  · split <;> first | assumption | rfl
  · split
    · exact h9
    · intro x hx; rw [List.eq_of_mem_replicate hx]; exact hb
theorem numL_len (s : Nat) (x : Int) : (numL s x).length = s := octC.numL_len s x
theorem skL_len (l : List (Int × Int)) : (skL l).length = 8 * l.length := by
  induction l with
  | nil => rfl
  | cons p r ih =>
    unfold skL at ih ⊢
    rw [List.flatMap_cons, List.length_append, List.length_append, numL_len, numL_len, ih, List.length_cons]
    omega
theorem told_len {o : Opt} (h : o.mac.length = 12) {k : Int} (hk : sizeK k o.sk.length ≠ 0) : 2 + (toldL o k).length = sizeK k o.sk.length := by
  unfold toldL
  unfold sizeK at hk ⊢
  split
  · rw [numL_len]
  · split
    · rfl
    · split
      · rfl
      · split
        · rw [List.length_append, numL_len, numL_len]
        · split
          · rw [skL_len]
          · split
            · simp [h]
            · simp_all
theorem hasB_size {o : Opt} {k : Int} (h : hasB o k = true) : sizeK k o.sk.length ≠ 0 := by
  unfold hasB at h
  unfold sizeK
  split <;> try omega
  split <;> try omega
  split <;> try omega
  split <;> try omega
  split <;> try omega
  split <;> try omega
  simp_all
theorem piece_len {o : Opt} (h : o.mac.length = 12) (k : Int) : (pieceL o k).length = pieceN o k := by
  unfold pieceL pieceN
  split
  · rename_i hh
    have := told_len h (hasB_size hh)
    simp only [List.length_cons]
    omega
  · rfl
theorem flat_len {o : Opt} (h : o.mac.length = 12) (ks : List Int) : (ks.flatMap (pieceL o)).length = (ks.map (pieceN o)).sum := by
  induction ks with
  | nil => rfl
  | cons k ks ih => rw [List.flatMap_cons, List.length_append, piece_len h, ih, List.map_cons, List.sum_cons]
theorem body_len {o : Opt} (h : o.mac.length = 12) : (bodyL o).length = bodyN o := flat_len h kinds
theorem lay_len {o : Opt} (h : o.mac.length = 12) : (layL o).length = sizeN o := by
  unfold layL sizeN
  rw [List.length_append, body_len h, List.length_replicate]
theorem size_mod (o : Opt) : sizeN o % 4 = 0 := by unfold sizeN padN; omega
/-- the pairs of some bytes -/
def pairsN : Nat → List Int → List (Int × Int)
  | 0, _ => []
  | n + 1, b => (getZ (b.take 4), getZ ((b.drop 4).take 4)) :: pairsN n (b.drop 8)
/-- options with one more, of its bytes behind the first two -/
def addO (o : Opt) (k : Int) (b : List Int) : Opt :=
  if k = 2 then { o with hm := true, ms := getZ b } else if k = 3 then { o with hs := true, sc := min (b.getD 0 0) 14 } else if k = 4 then { o with so := true }
  else if k = 8 then { o with ht := true, va := getZ (b.take 4), ec := getZ (b.drop 4) } else if k = 5 then { o with sk := o.sk ++ pairsN (b.length / 8) b }
  else if k = 29 then { o with ha := true, ki := b.getD 0 0, ni := b.getD 1 0, mac := b.drop 2 } else o
def wantN (k : Int) (n : Nat) : Nat := sizeK k (max (n / 8) 1)
def takeE (o : Opt) (k : Int) (b : List Int) : Int := if wantN k b.length = 0 then 0 else if wantN k b.length ≠ 2 + b.length then 3 else if hasB o k = true then 7 else 0
def takeO (o : Opt) (k : Int) (b : List Int) : Opt := if wantN k b.length = 0 then o else addO o k b
def psB (g : List Int → Opt → Int × Opt) (bs : List Int) (o : Opt) : Int × Opt :=
    match bs with
    | [] => (0, o)
    | k :: r => if k = 0 then (0, o) else if k = 1 then g r o else
      match r with
      | [] => (4, zOpt)
      | n :: t => if n < 2 then (3, zOpt) else if t.length < n.toNat - 2 then (4, zOpt)
        else if takeE o k (t.take (n.toNat - 2)) = 0 then g (t.drop (n.toNat - 2)) (takeO o k (t.take (n.toNat - 2))) else (takeE o k (t.take (n.toNat - 2)), zOpt)
/-- how bytes are read: the error (4: there is too little), and the options -/
def psG : Nat → List Int → Opt → Int × Opt
  | 0, _, o => (0, o)
  | f + 1, bs, o => psB (psG f) bs o
theorem psG_succ (f : Nat) (bs : List Int) (o : Opt) : psG (f + 1) bs o = psB (psG f) bs o := rfl
theorem psB_one (g : List Int → Opt → Int × Opt) (k : Int) (o : Opt) : psB g [k] o = if k = 0 then (0, o) else if k = 1 then g [] o else (4, zOpt) := rfl
theorem psB_more (g : List Int → Opt → Int × Opt) (k n : Int) (t : List Int) (o : Opt) : psB g (k :: n :: t) o = if k = 0 then (0, o) else if k = 1 then g (n :: t) o else if n < 2 then (3, zOpt) else if t.length < n.toNat - 2 then (4, zOpt)
        else if takeE o k (t.take (n.toNat - 2)) = 0 then g (t.drop (n.toNat - 2)) (takeO o k (t.take (n.toNat - 2))) else (takeE o k (t.take (n.toNat - 2)), zOpt) := rfl
/-- with more fuel it is the same -/
theorem psG_fuel : ∀ (f : Nat) (bs : List Int) (o : Opt) (f' : Nat), bs.length ≤ f → bs.length ≤ f' → psG f bs o = psG f' bs o := by
  intro f
  induction f with
  | zero =>
    intro bs o f' h h'
    obtain rfl : bs = [] := List.eq_nil_of_length_eq_zero (by omega)
    cases f' <;> rfl
  | succ f ih =>
    intro bs o f' h h'
    cases f' with
    | zero =>
      obtain rfl : bs = [] := List.eq_nil_of_length_eq_zero (by omega)
      rfl
    | succ f' =>
      cases bs with
      | nil => rfl
      | cons k r =>
        rw [psG_succ, psG_succ]
        cases r with
        | nil =>
          rw [psB_one, psB_one, ih [] o f' (Nat.zero_le _) (Nat.zero_le _)]
        | cons n t =>
          simp only [List.length_cons] at h h'
          have e := fun o' => ih (t.drop (n.toNat - 2)) o' f' (by rw [List.length_drop]; omega) (by rw [List.length_drop]; omega)
          rw [psB_more, psB_more, ih (n :: t) o f' (by simp only [List.length_cons]; omega) (by simp only [List.length_cons]; omega), e]
def psA (bs : List Int) (o : Opt) : Int × Opt := psG bs.length bs o
theorem psA_nil (o : Opt) : psA [] o = (0, o) := rfl
theorem psA_end (r : List Int) (o : Opt) : psA (0 :: r) o = (0, o) := rfl
theorem psA_fill (r : List Int) (o : Opt) : psA (1 :: r) o = psA r o := rfl
theorem psA_one {k : Int} (h0 : k ≠ 0) (h1 : k ≠ 1) (o : Opt) : psA [k] o = (4, zOpt) := by
  unfold psA
  show psG (0 + 1) [k] o = _
  rw [psG_succ, psB_one, if_neg h0, if_neg h1]
theorem psA_more {k n : Int} {t : List Int} (h0 : k ≠ 0) (h1 : k ≠ 1) (o : Opt) : psA (k :: n :: t) o = if n < 2 then (3, zOpt) else if t.length < n.toNat - 2 then (4, zOpt)
        else if takeE o k (t.take (n.toNat - 2)) = 0 then psA (t.drop (n.toNat - 2)) (takeO o k (t.take (n.toNat - 2))) else (takeE o k (t.take (n.toNat - 2)), zOpt) := by
  unfold psA
  show psG (t.length + 1 + 1) (k :: n :: t) o = _
  rw [psG_succ, psB_more, if_neg h0, if_neg h1, psG_fuel (t.length + 1) (t.drop (n.toNat - 2)) _ (t.drop (n.toNat - 2)).length (by rw [List.length_drop]; omega) (Nat.le_refl _)]
/-- one option, and what comes behind -/
theorem psA_step {k n : Int} {t r : List Int} {o : Opt} (h0 : k ≠ 0) (h1 : k ≠ 1) (hn : n = ((2 + t.length : Nat) : Int)) (he : takeE o k t = 0) : psA (k :: n :: (t ++ r)) o = psA r (takeO o k t) := by
  subst hn
  rw [psA_more h0 h1, if_neg (by omega), if_neg (by rw [List.length_append]; omega)]
  have e : ((2 + t.length : Nat) : Int).toNat - 2 = t.length := by omega
  rw [e, List.take_left, List.drop_left, if_pos he]
theorem getZ_num (s : Nat) (x : Int) (h0 : 0 ≤ x) (h1 : x < 256 ^ s) : getZ (numL s x) = x := by
  rw [octC.getZ_numL s x h0]; exact Int.emod_eq_of_lt h0 h1
theorem pairs_sk : ∀ (l : List (Int × Int)), (∀ p ∈ l, U32 p.1 ∧ U32 p.2) → pairsN l.length (skL l) = l
  | [], _ => rfl
  | p :: r, h => by
    have hp := h p (List.mem_cons_self ..)
    unfold U32 at hp
    have e : skL (p :: r) = numL 4 p.1 ++ (numL 4 p.2 ++ skL r) := by unfold skL; rw [List.flatMap_cons, List.append_assoc]
    have t1 : (numL 4 p.1 ++ (numL 4 p.2 ++ skL r)).take 4 = numL 4 p.1 := by rw [List.take_append_of_le_length (by rw [numL_len]; omega), List.take_of_length_le (by rw [numL_len]; omega)]
    have d1 : (numL 4 p.1 ++ (numL 4 p.2 ++ skL r)).drop 4 = numL 4 p.2 ++ skL r := by rw [List.drop_append_of_le_length (by rw [numL_len]; omega), List.drop_of_length_le (by rw [numL_len]; omega)]; rfl
    have t2 : (numL 4 p.2 ++ skL r).take 4 = numL 4 p.2 := by rw [List.take_append_of_le_length (by rw [numL_len]; omega), List.take_of_length_le (by rw [numL_len]; omega)]
    have d2 : (numL 4 p.2 ++ skL r).drop 4 = skL r := by rw [List.drop_append_of_le_length (by rw [numL_len]; omega), List.drop_of_length_le (by rw [numL_len]; omega)]; rfl
    have d8 : (numL 4 p.1 ++ (numL 4 p.2 ++ skL r)).drop 8 = skL r := by
      rw [show 8 = 4 + 4 from rfl, ← List.drop_drop, d1, d2]
    rw [e, List.length_cons, pairsN, d8, t1, d1, t2, getZ_num 4 _ hp.1.1 (by omega), getZ_num 4 _ hp.2.1 (by omega), pairs_sk r fun q hq => h q (List.mem_cons_of_mem _ hq)]
theorem kept_iff {o : Opt} : keptB o = true ↔ (o.hm = false → o.ms = 0) ∧ (o.hs = false → o.sc = 0) ∧ (o.ht = false → o.va = 0 ∧ o.ec = 0) ∧ (o.ha = false → o.ki = 0 ∧ o.ni = 0 ∧ o.mac = List.replicate 12 0) := by
  obtain ⟨a1, a2, a3, a4, a5, a6, a7, a8, a9, a10, a11, a12, a13⟩ := o
  cases a1 <;> cases a3 <;> cases a7 <;> cases a10 <;> simp [keptB]
structure Good (o : Opt) : Prop where
  ok : o.Ok
  kept : keptB o = true
  sc : o.sc ≤ 14
  sk : o.sk.length ≤ 4
theorem zOpt_good : Good zOpt := ⟨zOpt_ok, rfl, by decide, by decide⟩
theorem may_good {o : Opt} (ho : o.Ok) (h : mayB o = true) : Good o := by
  simp only [mayB, Bool.and_eq_true, decide_eq_true_eq] at h
  exact ⟨ho, h.1, h.2.1, h.2.2.1⟩
theorem good_may {o : Opt} (h : Good o) : mayB o = decide (sizeN o ≤ 40) := by
  unfold mayB
  rw [h.kept, decide_eq_true h.sc, decide_eq_true h.sk]; rfl
theorem want_told {o : Opt} (hl : o.mac.length = 12) {k : Int} (h : hasB o k = true) : wantN k (toldL o k).length = 2 + (toldL o k).length := by
  have e := told_len hl (hasB_size h)
  rw [e]
  unfold wantN
  by_cases h5 : k = 5
  · subst h5
    have e5 : toldL o 5 = skL o.sk := rfl
    rw [e5, skL_len]
    have h1 : 0 < o.sk.length := by simpa [hasB] using h
    have : max (8 * o.sk.length / 8) 1 = o.sk.length := by omega
    rw [this]
  · unfold sizeK
    simp only [h5, if_false]
theorem step_has {o acc : Opt} (hl : o.mac.length = 12) (hs : o.sk.length ≤ 4) {k : Int} (h0 : k ≠ 0) (h1 : k ≠ 1) (h : hasB o k = true) (ha : hasB acc k = false) (r : List Int) :
    psA (pieceL o k ++ r) acc = psA r (addO acc k (toldL o k)) := by
  have hw := want_told hl h
  have hsz := told_len hl (hasB_size h)
  have h256 : sizeK k o.sk.length < 256 := by unfold sizeK; repeat (first | omega | split)
  unfold pieceL
  rw [if_pos h]
  have e : k :: ((sizeK k o.sk.length % 256 : Nat) : Int) :: toldL o k ++ r = k :: ((sizeK k o.sk.length % 256 : Nat) : Int) :: (toldL o k ++ r) := rfl
  have n0 : wantN k (toldL o k).length ≠ 0 := by omega
  rw [e, psA_step h0 h1 (by rw [Nat.mod_eq_of_lt h256, hsz]) (by unfold takeE; rw [if_neg n0, if_neg (fun h => h hw), if_neg (by rw [ha]; decide)])]
  unfold takeO
  rw [if_neg n0]
theorem step_not {o acc : Opt} {k : Int} (h : hasB o k = false) (r : List Int) : psA (pieceL o k ++ r) acc = psA r acc := by
  unfold pieceL
  rw [if_neg (by rw [h]; decide)]; rfl
theorem psA_pad (n : Nat) (o : Opt) : psA (List.replicate n 0) o = (0, o) := by cases n <;> rfl
/-- what is laid is read -/
theorem psA_lay {o : Opt} (h : Good o) : psA (layL o) zOpt = (0, o) := by
  obtain ⟨ok, kp, h14, h4⟩ := h
  obtain ⟨y1, y2, y3, y4, y5, y6, y7, y8, y9⟩ := ok
  obtain ⟨q1, q2, q3, q4⟩ := kept_iff.1 kp
  clear kp
  unfold U32 at y4 y5
  have e : layL o = pieceL o 2 ++ (pieceL o 3 ++ (pieceL o 4 ++ (pieceL o 8 ++ (pieceL o 5 ++ (pieceL o 29 ++ List.replicate (padN (bodyN o)) 0))))) := by
    unfold layL bodyL kinds
    simp [List.flatMap_cons, List.append_assoc]
  rw [e]
  have HR : ∀ a : Opt, psA (List.replicate (padN (bodyN o)) 0) a = (0, a) := fun a => psA_pad _ a
  generalize List.replicate (padN (bodyN o)) 0 = R at *
  have s1 : ∀ r, psA (pieceL o 2 ++ r) zOpt = psA r { zOpt with hm := o.hm, ms := o.ms } := fun r => by
    cases hh : o.hm with
    | true =>
      rw [step_has y8 h4 (by decide) (by decide) (by simpa [hasB] using hh) (by rfl)]
      simp only [addO, toldL, if_true]
      rw [getZ_num 2 _ y1.1 (by omega)]
    | false =>
      rw [step_not (by simpa [hasB] using hh), q1 hh]; rfl
  have s2 : ∀ r, psA (pieceL o 3 ++ r) { zOpt with hm := o.hm, ms := o.ms } = psA r { zOpt with hm := o.hm, ms := o.ms, hs := o.hs, sc := o.sc } := fun r => by
    cases hh : o.hs with
    | true =>
      rw [step_has y8 h4 (by decide) (by decide) (by simpa [hasB] using hh) (by rfl)]
      have e3 : min o.sc 14 = o.sc := by omega
      simp [addO, toldL, e3]
    | false =>
      rw [step_not (by simpa [hasB] using hh), q2 hh]; rfl
  have s3 : ∀ r, psA (pieceL o 4 ++ r) { zOpt with hm := o.hm, ms := o.ms, hs := o.hs, sc := o.sc } = psA r { zOpt with hm := o.hm, ms := o.ms, hs := o.hs, sc := o.sc, so := o.so } := fun r => by
    cases hh : o.so with
    | true =>
      rw [step_has y8 h4 (by decide) (by decide) (by simpa [hasB] using hh) (by rfl)]
      simp [addO]
    | false =>
      rw [step_not (by simpa [hasB] using hh)]; rfl
  have s4 : ∀ r, psA (pieceL o 8 ++ r) { zOpt with hm := o.hm, ms := o.ms, hs := o.hs, sc := o.sc, so := o.so } = psA r { zOpt with hm := o.hm, ms := o.ms, hs := o.hs, sc := o.sc, so := o.so, ht := o.ht, va := o.va, ec := o.ec } := fun r => by
    cases hh : o.ht with
    | true =>
      rw [step_has y8 h4 (by decide) (by decide) (by simpa [hasB] using hh) (by rfl)]
      have t1 : (numL 4 o.va ++ numL 4 o.ec).take 4 = numL 4 o.va := by rw [List.take_append_of_le_length (by rw [numL_len]; omega), List.take_of_length_le (by rw [numL_len]; omega)]
      have d1 : (numL 4 o.va ++ numL 4 o.ec).drop 4 = numL 4 o.ec := by rw [List.drop_append_of_le_length (by rw [numL_len]; omega), List.drop_of_length_le (by rw [numL_len]; omega)]; rfl
      have et : toldL o 8 = numL 4 o.va ++ numL 4 o.ec := rfl
      rw [et]
      simp only [addO]
      rw [t1, d1, getZ_num 4 _ y4.1 (by omega), getZ_num 4 _ y5.1 (by omega)]
      simp
    | false =>
      rw [step_not (by simpa [hasB] using hh), (q3 hh).1, (q3 hh).2]; rfl
  have s5 : ∀ r, psA (pieceL o 5 ++ r) { zOpt with hm := o.hm, ms := o.ms, hs := o.hs, sc := o.sc, so := o.so, ht := o.ht, va := o.va, ec := o.ec } = psA r { zOpt with hm := o.hm, ms := o.ms, hs := o.hs, sc := o.sc, so := o.so, ht := o.ht, va := o.va, ec := o.ec, sk := o.sk } := fun r => by
    by_cases hh : 0 < o.sk.length
    · rw [step_has y8 h4 (by decide) (by decide) (by simpa [hasB] using hh) (by rfl)]
      have et : toldL o 5 = skL o.sk := rfl
      have el : (skL o.sk).length / 8 = o.sk.length := by rw [skL_len]; omega
      rw [et]
      simp only [addO]
      rw [el, pairs_sk _ y3]
      simp [zOpt]
    · have hn : o.sk = [] := List.eq_nil_of_length_eq_zero (by omega)
      rw [step_not (by simpa [hasB] using hn), hn]; rfl
  have s6 : ∀ r, psA (pieceL o 29 ++ r) { zOpt with hm := o.hm, ms := o.ms, hs := o.hs, sc := o.sc, so := o.so, ht := o.ht, va := o.va, ec := o.ec, sk := o.sk } = psA r o := fun r => by
    cases hh : o.ha with
    | true =>
      rw [step_has y8 h4 (by decide) (by decide) (by simpa [hasB] using hh) (by rfl)]
      obtain ⟨a1, a2, a3, a4, a5, a6, a7, a8, a9, a10, a11, a12, a13⟩ := o
      simp only at hh
      subst hh
      simp [addO, toldL]
    | false =>
      rw [step_not (by simpa [hasB] using hh)]
      obtain ⟨a1, a2, a3, a4, a5, a6, a7, a8, a9, a10, a11, a12, a13⟩ := o
      simp only at hh q4
      subst hh
      obtain ⟨rfl, rfl, rfl⟩ := q4 rfl
      rfl
  rw [s1, s2, s3, s4, s5, s6]
  exact HR o
theorem getZ_bound {b : List Int} (hy : ∀ x ∈ b, Byte x) : 0 ≤ getZ b ∧ getZ b < 256 ^ b.length := by
  have h := octC.getZ_bd b hy b.length (Nat.le_refl _)
  rw [List.take_length] at h
  exact h
theorem pairs_ok : ∀ (n : Nat) (b : List Int), (∀ x ∈ b, Byte x) → 8 * n ≤ b.length → (pairsN n b).length = n ∧ ∀ p ∈ pairsN n b, U32 p.1 ∧ U32 p.2
  | 0, _, _, _ => ⟨rfl, fun p hp => by cases hp⟩
  | n + 1, b, hy, hl => by
    have ih := pairs_ok n (b.drop 8) (fun x hx => hy x (List.mem_of_mem_drop hx)) (by rw [List.length_drop]; omega)
    have b1 := getZ_bound (b := b.take 4) fun x hx => hy x (List.mem_of_mem_take hx)
    have b2 := getZ_bound (b := (b.drop 4).take 4) fun x hx => hy x (List.mem_of_mem_drop (List.mem_of_mem_take hx))
    have l1 : (b.take 4).length = 4 := by rw [List.length_take]; omega
    have l2 : ((b.drop 4).take 4).length = 4 := by rw [List.length_take, List.length_drop]; omega
    rw [l1] at b1
    rw [l2] at b2
    refine ⟨by rw [pairsN, List.length_cons, ih.1], fun p hp => ?_⟩
    rw [pairsN] at hp
    rcases List.mem_cons.1 hp with rfl | hp
    · unfold U32; exact ⟨by constructor <;> omega, by constructor <;> omega⟩
    · exact ih.2 p hp
theorem getD_byte0 {bs : List Int} (hy : ∀ x ∈ bs, Byte x) (k : Nat) : Byte (bs.getD k 0) := by
  by_cases h : k < bs.length
  · exact getD_byte hy h
  · rw [List.getD_eq_getElem?_getD, List.getElem?_eq_none (by omega)]; unfold Byte; simp
theorem take_good {o : Opt} (h : Good o) {k : Int} {b : List Int} (hy : ∀ x ∈ b, Byte x) (hl : b.length ≤ 38) (he : takeE o k b = 0) : Good (takeO o k b) := by
  unfold takeO
  by_cases hw : wantN k b.length = 0
  · rw [if_pos hw]; exact h
  rw [if_neg hw]
  unfold takeE at he
  rw [if_neg hw] at he
  by_cases hn : wantN k b.length ≠ 2 + b.length
  · rw [if_pos hn] at he; cases he
  rw [if_neg hn] at he
  have hn' : wantN k b.length = 2 + b.length := by omega
  by_cases hb : hasB o k = true
  · rw [if_pos hb] at he; cases he
  clear he hn
  obtain ⟨ok, kp, h14, h4⟩ := h
  obtain ⟨q1, q2, q3, q4⟩ := kept_iff.1 kp
  have zb := getZ_bound hy
  unfold wantN sizeK at hn'
  unfold addO
  by_cases h2 : k = 2
  · rw [if_pos h2] at hn' ⊢
    have l2 : b.length = 2 := by omega
    rw [l2] at zb
    exact ⟨{ ok with ms := ⟨zb.1, by have := zb.2; simp only; omega⟩ }, kept_iff.2 ⟨fun h => (by cases h), q2, q3, q4⟩, h14, h4⟩
  rw [if_neg h2] at hn' ⊢
  by_cases h3 : k = 3
  · rw [if_pos h3] at hn' ⊢
    have hb0 := getD_byte0 hy 0
    exact ⟨{ ok with sc := by unfold Byte at *; simp only; omega }, kept_iff.2 ⟨q1, fun h => (by cases h), q3, q4⟩, by simp only; omega, h4⟩
  rw [if_neg h3] at hn' ⊢
  by_cases hk4 : k = 4
  · rw [if_pos hk4] at hn' ⊢
    exact ⟨{ ok with }, kept_iff.2 ⟨q1, q2, q3, q4⟩, h14, h4⟩
  rw [if_neg hk4] at hn' ⊢
  by_cases h8 : k = 8
  · rw [if_pos h8] at hn' ⊢
    have l8 : b.length = 8 := by omega
    have b1 := getZ_bound (b := b.take 4) fun x hx => hy x (List.mem_of_mem_take hx)
    have b2 := getZ_bound (b := b.drop 4) fun x hx => hy x (List.mem_of_mem_drop hx)
    have e1 : (b.take 4).length = 4 := by rw [List.length_take]; omega
    have e2 : (b.drop 4).length = 4 := by rw [List.length_drop]; omega
    rw [e1] at b1
    rw [e2] at b2
    exact ⟨{ ok with va := ⟨b1.1, by have := b1.2; simp only; omega⟩, ec := ⟨b2.1, by have := b2.2; simp only; omega⟩ }, kept_iff.2 ⟨q1, q2, fun h => (by cases h), q4⟩, h14, h4⟩
  rw [if_neg h8] at hn' ⊢
  by_cases h5 : k = 5
  · subst h5
    rw [if_pos rfl] at hn' ⊢
    have hs0 : o.sk = [] := by
      have : ¬ 0 < o.sk.length := by simpa [hasB] using hb
      exact List.eq_nil_of_length_eq_zero (by omega)
    have hp := pairs_ok (b.length / 8) b hy (by omega)
    refine ⟨{ ok with sk := by simp only; rw [hs0]; exact hp.2 }, kept_iff.2 ⟨q1, q2, q3, q4⟩, h14, ?_⟩
    simp only
    rw [hs0, List.nil_append, hp.1]
    omega
  rw [if_neg h5] at hn' ⊢
  by_cases h29 : k = 29
  · rw [if_pos h29] at hn' ⊢
    exact ⟨{ ok with ki := getD_byte0 hy 0, ni := getD_byte0 hy 1, lm := by simp only; rw [List.length_drop]; omega, ym := fun x hx => hy x (List.mem_of_mem_drop hx) }, kept_iff.2 ⟨q1, q2, q3, fun h => (by cases h)⟩, h14, h4⟩
  rw [if_neg h29] at hn' ⊢
  exact ⟨ok, kp, h14, h4⟩
theorem psG_good : ∀ (f : Nat) (bs : List Int) (o : Opt), (∀ x ∈ bs, Byte x) → bs.length ≤ 40 → Good o → ((psG f bs o).1 = 0 ∧ Good (psG f bs o).2) ∨ ((psG f bs o).1 ≠ 0 ∧ (psG f bs o).2 = zOpt) := by
  intro f
  induction f with
  | zero => intro bs o _ _ h; exact .inl ⟨rfl, h⟩
  | succ f ih =>
    intro bs o hy hl h
    cases bs with
    | nil => exact .inl ⟨rfl, h⟩
    | cons k r =>
      simp only [List.length_cons] at hl
      have hyr : ∀ x ∈ r, Byte x := fun x hx => hy x (List.mem_cons_of_mem _ hx)
      rw [psG_succ]
      cases r with
      | nil =>
        rw [psB_one]
        split
        · exact .inl ⟨rfl, h⟩
        · split
          · exact ih [] o hyr (by decide) h
          · exact .inr ⟨by decide, rfl⟩
      | cons n t =>
        rw [psB_more]
        split
        · exact .inl ⟨rfl, h⟩
        · split
          · exact ih _ o hyr (by omega) h
          · simp only [List.length_cons] at hl
            have hyt : ∀ x ∈ t, Byte x := fun x hx => hyr x (List.mem_cons_of_mem _ hx)
            split
            · exact .inr ⟨by decide, rfl⟩
            · split
              · exact .inr ⟨by decide, rfl⟩
              · split
                · rename_i he
                  exact ih _ _ (fun x hx => hyt x (List.mem_of_mem_drop hx)) (by rw [List.length_drop]; omega) (take_good h (fun x hx => hyt x (List.mem_of_mem_take hx)) (by rw [List.length_take]; omega) he)
                · rename_i he
                  exact .inr ⟨he, rfl⟩
end Go.Proofs.YtniimgbljhmcoaaDoor.opC

/-
  A call that turns one block that was there, and no other.
-/
namespace Go.Proofs.YtniimgbljhmcoaaDoor.butC
open Go.ChangeShapes Go.WideShapes Go.ChangeAt Go.RowKit
open Go.Proofs.YtniimgbljhmcoaaDoor.memC Go.Proofs.YtniimgbljhmcoaaDoor.genC
set_option linter.unusedVariables false
/-- of the blocks that were there, block k alone may have turned -/
structure But (k : Nat) (w w' : World) : Prop where
  os : w'.os = w.os
  tape : w'.tape = w.tape
  output : w'.output = w.output
  size : w.heap.size ≤ w'.heap.size
  block : ∀ g, g < w.heap.size → g ≠ k → w'.heap[g]? = w.heap[g]?
section
variable {k B : Nat} {w w1 w2 : World}
theorem But.below (h : Below w.heap.size w w1) : But k w w1 := ⟨h.os, h.tape, h.output, h.size, fun g hg _ => h.block g hg⟩
theorem But.refl (w : World) : But k w w := But.below (Below.refl _ _)
theorem But.trans (h : But k w w1) (h' : But k w1 w2) : But k w w2 :=
  ⟨h'.os.trans h.os, h'.tape.trans h.tape, h'.output.trans h.output, Nat.le_trans h.size h'.size, fun g hg hn => (h'.block g (Nat.lt_of_lt_of_le hg h.size) hn).trans (h.block g hg hn)⟩
/-- a block that a later world alone has may turn -/
theorem But.under {k2 : Nat} (h : But k w w1) (h' : But k2 w1 w2) (hk : w.heap.size ≤ k2) : But k w w2 :=
  ⟨h'.os.trans h.os, h'.tape.trans h.tape, h'.output.trans h.output, Nat.le_trans h.size h'.size, fun g hg hn => (h'.block g (Nat.lt_of_lt_of_le hg h.size) (by omega)).trans (h.block g hg hn)⟩
theorem But.heap (h : But k w w1) (e : w2.heap = w1.heap) (e1 : w2.os = w1.os) (e2 : w2.tape = w1.tape) (e3 : w2.output = w1.output) : But k w w2 :=
  ⟨e1.trans h.os, e2.trans h.tape, e3.trans h.output, by rw [e]; exact h.size, fun g hg hn => by rw [e]; exact h.block g hg hn⟩
theorem But.alloc (h : But k w w1) (o : Obj) : But k w (w1.alloc o) := h.trans (But.below (alloc_below _ _))
theorem But.setCell (h : But k w w1) (j : Nat) (v : Value) : But k w (w1.setCell ⟨k, j, none⟩ v) :=
  ⟨h.os, h.tape, h.output, by simpa [World.setCell] using h.size, fun g hg hn => by rw [Below.heap_setCell _ _ _ _ hn]; exact h.block g hg hn⟩
/-- a store into a block that was not there -/
theorem But.fresh (h : But k w w1) {a : Addr} (ha : w.heap.size ≤ a.block) (v : Value) : But k w (w1.setCell a v) :=
  ⟨h.os, h.tape, h.output, by simpa [World.setCell] using h.size, fun g hg hn => by rw [Below.heap_setCell _ _ _ _ (by omega)]; exact h.block g hg hn⟩
theorem But.setRow (h : But k w w1) (cs : Array Value) : But k w (w1.setRow k cs) :=
  ⟨h.os, h.tape, h.output, by simpa [World.setRow] using h.size, fun g hg hn => by rw [setRow_other w1 k g cs hn]; exact h.block g hg hn⟩
theorem But.to_below (h : But k w w1) (hk : B ≤ k) (hw : B ≤ w.heap.size) : Below B w w1 :=
  ⟨h.os, h.tape, h.output, h.size, fun g hg => h.block g (by omega) (by omega)⟩
theorem But.cell (h : But k w w1) {a : Addr} (ha : a.block < w.heap.size) (hn : a.block ≠ k) : w1.cell? a = w.cell? a := World.cell?_of_block (w := w) (h.block _ ha hn)
/-- what lies in another block stands -/
def Off (A : Option Addr) (k : Nat) : Prop := ∀ a, A = some a → a.block ≠ k
theorem But.nums {K : IntKind} {A : Option Addr} {n : Nat} {xs : List Int} (h : But k w w1) (hx : Nums K w w.heap.size A n xs) (hA : 0 < n → Off A k) : Nums K w1 w1.heap.size A n xs :=
  ⟨hx.len, fun hn => by
    obtain ⟨b, o, e, hb, hc⟩ := hx.at_ hn
    exact ⟨b, o, e, Nat.lt_of_lt_of_le hb h.size, fun i hi => (h.cell (a := ⟨b, o + i, none⟩) hb (fun e2 => hA hn _ e e2)).trans (hc i hi)⟩⟩
theorem off_below {K : IntKind} {A : Option Addr} {n : Nat} {xs : List Int} (h : Nums K w B A n xs) (hk : B ≤ k) : 0 < n → Off A k := fun hn a ha => by
  obtain ⟨b, o, e, hb, _⟩ := h.at_ hn
  rw [e] at ha
  obtain rfl := Option.some.inj ha
  show b ≠ k
  omega
theorem But.arr {K : IntKind} {T : TypeId} {g : Nat} {xs : List Int} (h : But k w w1) (hx : Arr K T w g xs) (hg : g ≠ k) : Arr K T w1 g xs := ⟨by rw [h.block g hx.lt hg]; exact hx.row⟩
end
end Go.Proofs.YtniimgbljhmcoaaDoor.butC
