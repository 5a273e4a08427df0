/-
  1 texts of a proof, joined.
-/
import Derived.Test.YtflfkhcbkhdahaaMg26

/-
  What is told of a ring: one key tuple, or some.
-/
namespace Go.Proofs.Ytflfkhcbkhdahaa.mkC
open Go.ChangeShapes Go.WideShapes Go.ChangeAt Go.RowKit
open Go.Proofs.Ytflfkhcbkhdahaa.memC Go.Proofs.Ytflfkhcbkhdahaa.genC Go.Proofs.Ytflfkhcbkhdahaa.butC Go.Proofs.Ytflfkhcbkhdahaa.freeC Go.Proofs.Ytflfkhcbkhdahaa.adC Go.Proofs.Ytflfkhcbkhdahaa.rtC
set_option linter.unusedVariables false
/-- append(own, key tuples...) -/
theorem run_appP (w : World) (base : Nat) (v : Value) (es : List Ke) (hown : OwnP w base v es) (ty : TypeId)
    (lo B : Nat) (A : Option Addr) (m c : Nat) (fs : List Ke) (hr : RowK w lo B A m fs) (hok : ∀ e ∈ fs, e.L.length = 26) (hl : es.length + m ≤ 1000000) (hA : m = 0 → A = none ∨ ∃ b o, A = some ⟨b, o, none⟩) (hbase : base ≤ w.heap.size) :
    ∃ v' w', (Builtin.append_ #[61, 61] ty #[v, .slice A m c]).run Try.prog w = .ok v' w' ∧ OwnP w' base v' (es ++ fs) ∧ w.grownBy w' v.ownBlock := by
  obtain ⟨i, hi, he⟩ := Option.map_eq_some_iff.1 pk_infoK
  obtain ⟨hz, he2⟩ := Prod.mk.inj he
  obtain ⟨hs, hb⟩ := Prod.mk.inj he2
  have hlq := hr.len
  have main : ∀ b o, A = some ⟨b, o, none⟩ → (∀ i e, fs[i]? = some e → ∀ j v, e.L[j]? = some v → w.cell? ⟨b, o + i * 26 + j, none⟩ = some v) → ∃ v' w', (Builtin.append_ #[61, 61] ty #[v, .slice A m c]).run Try.prog w = .ok v' w' ∧ OwnP w' base v' (es ++ fs) ∧ w.grownBy w' v.ownBlock := by
    rintro b o rfl hc
    obtain ⟨v', w', hrun, h2, h3, _⟩ := run_append_own (P := Try.prog) w base 61 ty 49 i _ 26 88 Try.underlying61 hi hz hs hb rfl (by omega) v _ _ hown ⟨b, o, none⟩ m c (flatK fs) (by rw [flatK_len hok, hlq])
      (fun j u hu => by
        have hj : j < m * 26 := by
          have := (List.getElem?_eq_some_iff.1 hu).1
          rw [flatK_len hok, hlq] at this; exact this
        have hi2 : j / 26 < fs.length := by rw [hlq]; omega
        have hf := List.getElem?_eq_getElem hi2
        have h9 := flatK_at hok (j / 26) _ (j % 26) hf (Nat.mod_lt _ (by omega))
        have e : j / 26 * 26 + j % 26 = j := by omega
        rw [e, hu] at h9
        have := hc (j / 26) _ hf (j % 26) u h9.symm
        rw [memC.add_plain]
        rw [show o + j / 26 * 26 + j % 26 = o + j by omega] at this
        exact this) (flatK_one fs) (by simp only [maxLen]; omega) (by omega) hbase
    refine ⟨v', w', hrun, ?_, h3⟩
    unfold OwnP
    rw [List.length_append, hlq, flatK_append]
    exact h2
  rcases Nat.eq_zero_or_pos m with h0 | h0
  · have hf0 : fs = [] := List.eq_nil_of_length_eq_zero (hlq.trans h0)
    rcases hA h0 with rfl | ⟨b, o, rfl⟩
    · subst h0
      refine ⟨v, w, Go.Proofs.Ytflfkhcbkhdahaa.memC.run_append_nil w base 61 ty 49 i 26 Try.underlying61 hi v _ _ hown c, ?_, World.grownBy.refl w _⟩
      rw [hf0, List.append_nil]; exact hown
    · exact main b o rfl (fun i e h => by rw [hf0] at h; cases h)
  · obtain ⟨b, o, rfl, -, -, hc⟩ := hr.at_ h0
    exact main b o rfl hc
theorem wpList_appP {ops : Array Oper} {rest : List Oper} {o : Oper} {a : Act} {Q : Exit → Act → World → Prop} (w : World) (hgd : o.guard = none) (s x : Operand)
    (ho : o.op = .call { callee := .builtin .append, args := #[s, x], argTypes := #[61, 61] }) (base : Nat) (v : Value) (es : List Ke) (hs : a.eval s = v) (hown : OwnP w base v es) (hoke : ∀ e ∈ es, e.L.length = 26)
    (lo B : Nat) (A : Option Addr) (m c : Nat) (fs : List Ke) (hx : a.eval x = .slice A m c) (hr : RowK w lo B A m fs) (hok : ∀ e ∈ fs, e.L.length = 26) (hl : es.length + m ≤ 1000000) (hm : 0 < m) (hbase : base ≤ w.heap.size) (L : Nat) (hL : es.length + m = L)
    (h : ∀ A' c' w', L ≤ c' → OwnP w' base (.slice A' L c') (es ++ fs) → Below base w w' → w.grownBy w' v.ownBlock → wpList Try.prog ops Q rest (a.put o.dst (.slice A' L c')) w') : wpList Try.prog ops Q (o :: rest) a w := by
  obtain ⟨v', w', hrun, h2, h3⟩ := run_appP w base v es hown o.type lo B A m c fs hr hok hl (fun e => absurd e (by omega)) hbase
  refine wpList_plain hgd fun K hK => ?_
  unfold Oper.wp execOp
  simp only [ho, resolve, invoke, builtin, Sem.run_bind, Sem.run_pure, Result.andThen_ok, List.map_toArray, List.map_cons, List.map_nil, hs, hx, hrun]
  refine hK _ _ ?_
  have e : (es ++ fs).length = L := by rw [List.length_append, hr.len]; exact hL
  obtain ⟨A', c', e2, g1, g2, N⟩ := h2.form (fun e he => by rcases List.mem_append.1 he with h | h; exact hoke e h; exact hok e h)
  rw [e] at e2 g1
  subst e2
  exact h A' c' w' g1 h2 (grown_below h3 hbase fun g hg => (hown.lt g hg).1) h3
/-- a slice of one key tuple -/
theorem wpList_slicePt {ops : Array Oper} {rest : List Oper} {o : Oper} {a : Act} {w : World} {Q : Exit → Act → World → Prop} (hg : o.guard = none) (x : Operand) (ho : o.op = .buildSlice 61 1 #[(0, x)]) (C : Array Value) (hx : a.eval x = .agg C) (hC : C.size = 26)
    (h : wpList Try.prog ops Q rest (a.put o.dst (.slice (some ⟨w.heap.size, 0, none⟩) 1 1)) (w.alloc (.cells C 49))) : wpList Try.prog ops Q (o :: rest) a w := by
  obtain ⟨ie, hie, he⟩ := Option.map_eq_some_iff.1 pk_infoK
  obtain ⟨hz, he2⟩ := Prod.mk.inj he
  obtain ⟨hs, hb⟩ := Prod.mk.inj he2
  refine wpList_buildSlice hg 61 49 1 _ ho C ie _ Try.underlying61 hie hz (by rw [hs]; decide) (by rw [hs]; decide) ?_ h
  rw [hs]
  have := Great.fill_whole (s := 26) (by decide) [Value.agg C] ((Array.range (1 * 26)).map ((Value.agg (ktV zKt none 0 0)).cells[· % (Value.agg (ktV zKt none 0 0)).cells.size]!)) (by simpa [Value.cells] using hC) (by simp)
  simpa [hx, Value.cells] using this
set_option maxRecDepth 100000 in
theorem built_zpk : Try.prog.built 49 [] = some (ktV zKt none 0 0) := by kernel_rfl
/-- one that was found, its master key of new memory, or none -/
def OneR (w : World) (o : Kp × Int) (e : Ending) (w' : World) : Prop := ∃ q : Ke, KeAt w' w'.heap.size q ∧ q.val = o.1 ∧ (∀ b o', q.A = some ⟨b, o', none⟩ → w.heap.size ≤ b) ∧ e = .returned (.tuple #[.agg q.V, .int .i64 o.2]) ∧ Below w.heap.size w w'
theorem one_none {w w' : World} {es : List Ke} {l : List Kp} {f : Kp → Bool} {c0 : Int} (hv : es.map Ke.val = l) (h : ∀ x ∈ es, f x.val = false) (hb : Below w.heap.size w w') : OneR w (pickP l f c0) (.returned (.tuple #[.agg (ktV zKt none 0 0), .int .i64 c0])) w' := by
  have e : pickP l f c0 = (zKp, c0) := by
    unfold pickP
    rw [← hv, List.find?_eq_none.2 fun x hx => by
      obtain ⟨y, hy, rfl⟩ := List.mem_map.1 hx
      rw [h y hy]; decide]
  rw [e]
  exact ⟨zKe, zKe_at _ _, rfl, (fun b o' h => by cases h), rfl, hb⟩
theorem pick_hit {es : List Ke} {l : List Kp} {f : Kp → Bool} {c0 : Int} {i : Nat} {x : Ke} (hv : es.map Ke.val = l) (hx : es[i]? = some x) (hf : f x.val = true) (hno : ∀ y ∈ es.take i, f y.val = false) : pickP l f c0 = (x.val, 0) := by
  have := pickE_val es f c0
  rw [hv] at this
  rw [this, pickE_hit (f := f) hno hx hf]
set_option maxRecDepth 100000 in
set_option maxHeartbeats 4000000 in
theorem one_any (w : World) (S : Nat → Prop) (t : Nat) (A : Option Addr) (n c : Nat) (es : List Ke) (rg : Rg) (c0 : Int) (cl : Value) (f : Kp → Bool) (H : TCk w S t A n c es rg) (hinv : Inv rg)
    (IXC : ∀ w', Below w.heap.size w w' → Calls Try.prog 27 #[.slice A n c, cl] w' (IdxR w' es fun x => f x.val)) : Calls Try.prog 37 #[.pointer (some ⟨t, 0, none⟩), .int .i64 c0, cl] w (OneR w (pickP rg.l f c0)) := by
  have hzv := zeroPk
  have h32 := H.le32 hinv
  obtain ⟨W, hW⟩ : ∃ W, W = w.alloc (.cells (ktV zKt none 0 0) 49) := ⟨_, rfl⟩
  obtain ⟨b6, hb6⟩ : ∃ b, b = w.heap.size := ⟨_, rfl⟩
  have HB := Lib.hid (show Below w.heap.size w W by rw [hW]; exact alloc_below _ _)
  have R6 := Lib.hid (show W.heap[b6]? = some (.cells (ktV zKt none 0 0) 49 (0, 0)) by rw [hW, hb6]; exact heap_alloc_new _ _)
  have HT := Lib.hid (H.below HB.out)
  have HI := Lib.hid hinv
  have HL := Lib.hid (And.intro H.len h32)
  have HB6 := Lib.hid (show w.heap.size ≤ b6 by omega)
  have MD := Lib.hid (made_any HT.out)
  have IN := Lib.hid (IXC W HB.out)
  have c1 := HT.out.c1
  have IZ := Lib.hid (pkV_info (A := none) (m := 0) (c := 0) zKt_ok)
  have OZ := Lib.hid (kt_ones (k := zKt) (A := none) (m := 0) (c := 0))
  have BZ := Lib.hid built_zpk
  obtain ⟨ZV, hZV⟩ : ∃ Z, Z = ktV zKt none 0 0 := ⟨_, rfl⟩
  have HZV := Lib.hid hZV
  have SZ := Lib.hid (show ZV.size = 26 by rw [hZV]; exact zV_size)
  rw [← hZV] at hzv R6 IZ OZ BZ hW
  clear H h32 hZV hinv IXC
  go_enter Try.func37, Try.ntmps37
  go_upto_region 1 with fail
  rw [← hW]
  try rw [← hb6]
  clear hW hb6 hzv
  go_upto_region 4 with (first
    | (go_at_call 26; refine MD.out.mono ?_; rintro e w2 ⟨rfl, hw⟩; obtain rfl := hw.symm)
    | (go_at_call 27; refine IN.out.mono ?_; rintro e w2 ⟨r, rfl, hr, hb⟩; have HR := Lib.hid hr; have HB2 := Lib.hid hb; clear hr hb))
  have HT2 := Lib.hid (HT.out.below HB2.out)
  have HBB := Lib.hid (HB.out.trans (HB2.out.mono HB.out.size))
  have T6 := Lib.hid (show w2.heap[b6]? = some (.cells ZV 49 (0, 0)) from (HB2.out.block _ (lt_of_row R6.out)).trans R6.out)
  clear c1 MD IN
  rcases HR.out with ⟨hr, hno⟩ | ⟨i, x, hr, hx, hf, hno⟩
  · have HNO := Lib.hid hno
    subst hr
    clear hno HR
    go_wp2_with (first
      | (with_reducible refine at_build 49 ?_; refine wpList_runG (by kernel_rfl) _ (adC.built_run (T := 49) rfl BZ.out) ?_)
      | (refine wpList_store_row rfl 49 (.tmp 6) (.tmp 21) rfl b6 ZV rfl rfl _ _ T6.out IZ.out rfl OZ.out ?_))
    refine bodyPost_ret (v := .tuple #[.agg ZV, .int .i64 c0]) (adC.results_cell_tmp Try.results37 _ _ b6 _ _ _ _ _ (by rfl) (setRow_heap _ _ _ _ _ _ T6.out) Try.underlying49 rfl IZ.out (by rfl)) rfl ?_
    rw [HZV.out]
    exact one_none HT2.out.val HNO.out (setR_belowM HBB.out HB6.out _)
  · have hxn : i < n := by rw [← HL.out.1]; exact (List.getElem?_eq_some_iff.1 hx).1
    obtain ⟨g, hA, hnc, hcm, hgt, hSg⟩ := HT2.out.blk (by omega)
    have hxm := List.mem_of_getElem? hx
    have kx := HT2.out.keys x hxm
    obtain ⟨b, of_, hA2, hlo, hbl, hc⟩ := HT2.out.rowK.at_ (by omega)
    have HX := Lib.hid (And.intro hx (And.intro hf hno))
    have CL := Lib.hid (show ∀ j v, x.L[j]? = some v → w2.cell? ⟨b, of_ + i * 26 + j, none⟩ = some v from fun j v hv => hc i x hx j v hv)
    have IX := Lib.hid (show (Try.prog.info? 49).map (·.size) = some x.L.length from pkL_info kx.ok)
    have OW := Lib.hid (show Calls Try.prog 34 #[.agg x.L.toArray] w2 (OwnQ w2 x) from own_any x w2 kx (by have := HT2.out.small HI.out hxm; omega))
    have q1 : ¬ r < 0 := by omega
    have q3 : (i : Int) < (n : Int) := by omega
    have c1 := HT2.out.c1
    have KX := Lib.hid kx.ok
    subst hA2
    clear hA hnc hcm hgt hSg hxm kx hlo hbl hc hx hf hno HR
    subst hr
    obtain ⟨CX, hCX⟩ : ∃ L, L = x.L := ⟨_, rfl⟩
    rw [← hCX] at CL IX OW
    clear hCX
    go_wp2_with (first
      | (with_reducible refine atC.at_load 49 28 ?_; refine partC.wpList_load_part rfl 49 (.tmp 28) rfl b (of_ + i * 26) rfl CX _ CL.out Try.underlying49 rfl IX.out ?_)
      | (go_at_call 34; (with_reducible refine OW.out.mono ?_); rintro e w3 ⟨B, d, rfl, k3, o3, b3⟩
         have HK3 := Lib.hid k3
         have HO3 := Lib.hid o3
         have HB3 := Lib.hid b3
         have R3 := Lib.hid (show w3.heap[b6]? = some (.cells ZV 49 (0, 0)) from (b3.block _ (lt_of_row T6.out)).trans T6.out)
         have IV := Lib.hid (pkV_info (A := B) (m := x.n) (c := d) KX.out)
         have SV := Lib.hid (show ZV.size = (ktV x.k B x.n d).size by rw [SZ.out, ktV_size KX.out])
         have OV := Lib.hid (kt_ones (k := x.k) (A := B) (m := x.n) (c := d))
         clear k3 o3 b3)
      | (refine wpList_store_row rfl 49 (.tmp 6) (.tmp 30) rfl b6 (ktV x.k B x.n d) rfl rfl _ _ R3.out IV.out SV.out OV.out ?_))
    refine bodyPost_ret (v := .tuple #[.agg (ktV x.k B x.n d), .int .i64 0]) (adC.results_cell_tmp Try.results37 _ _ b6 _ _ _ _ _ (by rfl) (setRow_heap _ _ _ _ _ _ R3.out) Try.underlying49 rfl IV.out (by rfl)) rfl ?_
    obtain ⟨hx, hf, hno⟩ := HX.out
    rw [pick_hit (c0 := c0) HT2.out.val hx hf hno]
    have hnb : ∀ b' o', B = some ⟨b', o', none⟩ → w2.heap.size ≤ b' := fun b' o' e => (HO3.out.blk b' (by rw [e]; rfl)).1
    have h6 : b6 < w2.heap.size := lt_of_row T6.out
    refine ⟨⟨x.k, B, x.n, d, x.m⟩, HK3.out.stand (by simp) (fun b' o' e => setRow_other _ _ _ _ (by have := hnb b' o' e; omega)), rfl, fun b' o' e => Nat.le_trans HBB.out.size (hnb b' o' e), rfl, setR_belowM (HBB.out.trans (HB3.out.mono HBB.out.size)) HB6.out _⟩
theorem pick_both (l : List Kp) (p f : Kp → Bool) (c : Int) : pickP (l.filter p) f c = pickP l (fun x => f x && p x) c := by
  unfold pickP
  rw [List.find?_filter]
  have : (fun a => p a && f a) = fun x => f x && p x := by funext x; exact Bool.and_comm _ _
  first
    | rw [this]
    | (congr 2; funext x; simp [Bool.and_comm])
theorem find_of {w W w3 : World} {b : Nat} {o : Kp × Int} {q : Ke} (hb : Below w.heap.size w W) (h1 : KeAt w3 w3.heap.size q) (h2 : q.val = o.1) (h3 : ∀ b o', q.A = some ⟨b, o', none⟩ → W.heap.size ≤ b) (h5 : Below W.heap.size W w3) (hlo : w.heap.size ≤ b) (hhi : b < W.heap.size) :
    FindR w o (.returned (.tuple #[.agg q.V, .int .i64 o.2])) (w3.setRow b q.V) :=
  ⟨q, h1.stand (by simp) (fun b' o' e => setRow_other _ _ _ _ (by have := h3 b' o' e; omega)), h2, rfl, setR_belowM (hb.trans (h5.mono hb.size)) hlo _⟩
set_option maxRecDepth 100000 in
set_option maxHeartbeats 4000000 in
theorem get_any (w : World) (S : Nat → Prop) (t : Nat) (rg : Rg) (m : Int) (h : Tb w S t rg) (hinv : Inv rg)  : Calls Try.prog 19 #[.pointer (some ⟨t, 0, none⟩), .int .i64 m] w (FindR w (getP rg m)) := by
  obtain ⟨A, n, c, es, H⟩ := h
  have hzv := zeroPk
  have h32 := H.le32 hinv
  obtain ⟨W1, hW1⟩ : ∃ W, W = w.alloc (.cells #[.int .i64 m] 3) := ⟨_, rfl⟩
  obtain ⟨W, hW⟩ : ∃ W, W = W1.alloc (.cells (ktV zKt none 0 0) 49) := ⟨_, rfl⟩
  have A1 : Below w.heap.size w W1 := by rw [hW1]; exact alloc_below _ _
  have z1 : W1.heap.size = w.heap.size + 1 := by rw [hW1, alloc_size]
  have A2 : Below W1.heap.size W1 W := by rw [hW]; exact alloc_below _ _
  have z2 : W.heap.size = w.heap.size + 2 := by rw [hW, alloc_size, z1]
  obtain ⟨bx, hbx⟩ : ∃ b, b = w.heap.size := ⟨_, rfl⟩
  have Rbx := Lib.hid (show W.heap[bx]? = some (.cells #[.int .i64 m] 3 (0, 0)) by rw [A2.block _ (by omega), hbx, hW1]; exact heap_alloc_new _ _)
  obtain ⟨b6, hb6⟩ : ∃ b, b = w.heap.size + 1 := ⟨_, rfl⟩
  have R6 := Lib.hid (show W.heap[b6]? = some (.cells (ktV zKt none 0 0) 49 (0, 0)) by rw [hW, hb6, ← z1]; exact heap_alloc_new _ _)
  have HB := Lib.hid (show Below w.heap.size w W from (A1).trans (A2.mono (by omega)))
  have HT := Lib.hid (H.below HB.out)
  have HL := Lib.hid (And.intro H.len h32)
  have H6 := Lib.hid (show w.heap.size ≤ b6 ∧ b6 < W.heap.size from ⟨by omega, by omega⟩)
  have ON := Lib.hid (one_any W S t A n c es rg 6 (.func (.func 41) #[] #[.pointer (some ⟨bx, 0, none⟩)]) (fun x => decide (x.1.n = m)) HT.out hinv (fun w' hb => index_get1 m bx A 0 n c es w' ((HT.out.below hb).rowK) (fun e he => (HT.out.keys e he).ok) (by have := HL.out; omega) ((hb.block _ (lt_of_row Rbx.out)).trans Rbx.out)))
  have IZ := Lib.hid zV_size
  obtain ⟨ZV, hZV⟩ : ∃ Z, Z = ktV zKt none 0 0 := ⟨_, rfl⟩
  rw [← hZV] at hzv R6 IZ hW
  clear H h32 hZV hinv A1 A2
  go_enter Try.func19, Try.ntmps19
  go_upto_region 1 with fail
  try rw [← hW1]
  try rw [← hW]
  try rw [z1]
  try rw [← hb6]
  try rw [← hbx]
  clear hW hzv hb6 hW1 z1 z2 hbx
  go_wp2_with (first
    | (go_at_call 37; (with_reducible refine ON.out.mono ?_); rintro e w3 ⟨q, k3, v3, n3, rfl, b3⟩
       have HK3 := Lib.hid k3
       have HV3 := Lib.hid v3
       have HN3 := Lib.hid n3
       have HB3 := Lib.hid b3
       have R3 := Lib.hid (show w3.heap[b6]? = some (.cells ZV 49 (0, 0)) from (b3.block _ (lt_of_row R6.out)).trans R6.out)
       have IV := Lib.hid (show (Try.prog.info? 49).map (·.size) = some q.V.size from pkV_info k3.ok)
       have SV := Lib.hid (show ZV.size = q.V.size by rw [IZ.out]; exact (ktV_size k3.ok).symm)
       have OV := Lib.hid (show q.V.all (·.oneCell') = true from kt_ones)
       clear k3 v3 n3 b3)
    | (refine wpList_store_row rfl 49 (.tmp 4) (.tmp 9) rfl b6 q.V rfl rfl _ _ R3.out IV.out SV.out OV.out ?_))
  refine bodyPost_ret (v := .tuple #[.agg q.V, .int .i64 (getP rg m).2]) (adC.results_cell_tmp Try.results19 _ _ b6 _ _ _ _ _ (by rfl) (setRow_heap _ _ _ _ _ _ R3.out) Try.underlying49 rfl IV.out (by rfl)) rfl ?_
  exact find_of HB.out HK3.out HV3.out HN3.out HB3.out H6.out.1 H6.out.2
set_option maxRecDepth 100000 in
set_option maxHeartbeats 4000000 in
theorem sends_any (w : World) (S : Nat → Prop) (t : Nat) (rg : Rg) (p : Pr) (i : Int) (h : Tb w S t rg) (hinv : Inv rg) (hp : p.Ok) (hi : Byte i) : Calls Try.prog 15 #[.pointer (some ⟨t, 0, none⟩), .agg (prV p), .int .u8 i] w (FindR w (sendP rg p i)) := by
  have hpk : sendP rg p i = pickP rg.l (fun x => decide (x.1.si = i) && govB x.1 p) 12 := pick_both rg.l (fun x => govB x.1 p) (fun x => decide (x.1.si = i)) 12
  rw [hpk]
  clear hpk
  obtain ⟨A, n, c, es, H⟩ := h
  have hzv := zeroPk
  have h32 := H.le32 hinv
  obtain ⟨W1, hW1⟩ : ∃ W, W = w.alloc (.cells (prV p) 30) := ⟨_, rfl⟩
  obtain ⟨W2, hW2⟩ : ∃ W, W = W1.alloc (.cells #[.int .u8 i] 5) := ⟨_, rfl⟩
  obtain ⟨W, hW⟩ : ∃ W, W = W2.alloc (.cells (ktV zKt none 0 0) 49) := ⟨_, rfl⟩
  have A1 : Below w.heap.size w W1 := by rw [hW1]; exact alloc_below _ _
  have z1 : W1.heap.size = w.heap.size + 1 := by rw [hW1, alloc_size]
  have A2 : Below W1.heap.size W1 W2 := by rw [hW2]; exact alloc_below _ _
  have z2 : W2.heap.size = w.heap.size + 2 := by rw [hW2, alloc_size, z1]
  have A3 : Below W2.heap.size W2 W := by rw [hW]; exact alloc_below _ _
  have z3 : W.heap.size = w.heap.size + 3 := by rw [hW, alloc_size, z2]
  obtain ⟨bp, hbp⟩ : ∃ b, b = w.heap.size := ⟨_, rfl⟩
  have Rbp := Lib.hid (show W.heap[bp]? = some (.cells (prV p) 30 (0, 0)) by rw [A3.block _ (by omega), A2.block _ (by omega), hbp, hW1]; exact heap_alloc_new _ _)
  obtain ⟨bi, hbi⟩ : ∃ b, b = w.heap.size + 1 := ⟨_, rfl⟩
  have Rbi := Lib.hid (show W.heap[bi]? = some (.cells #[.int .u8 i] 5 (0, 0)) by rw [A3.block _ (by omega), hbi, hW2, ← z1]; exact heap_alloc_new _ _)
  obtain ⟨b6, hb6⟩ : ∃ b, b = w.heap.size + 2 := ⟨_, rfl⟩
  have R6 := Lib.hid (show W.heap[b6]? = some (.cells (ktV zKt none 0 0) 49 (0, 0)) by rw [hW, hb6, ← z2]; exact heap_alloc_new _ _)
  have HB := Lib.hid (show Below w.heap.size w W from ((A1).trans (A2.mono (by omega))).trans (A3.mono (by omega)))
  have HT := Lib.hid (H.below HB.out)
  have HL := Lib.hid (And.intro H.len h32)
  have H6 := Lib.hid (show w.heap.size ≤ b6 ∧ b6 < W.heap.size from ⟨by omega, by omega⟩)
  have ON := Lib.hid (one_any W S t A n c es rg 12 (.func (.func 38) #[] #[.pointer (some ⟨bi, 0, none⟩), .pointer (some ⟨bp, 0, none⟩)]) (fun x => decide (x.1.si = i) && govB x.1 p) HT.out hinv (fun w' hb => index_sends1 p i bi bp A 0 n c es w' ((HT.out.below hb).rowK) (fun e he => (HT.out.keys e he).ok) (by have := HL.out; omega) hp ((hb.block _ (lt_of_row Rbi.out)).trans Rbi.out) ((hb.block _ (lt_of_row Rbp.out)).trans Rbp.out)))
  have IZ := Lib.hid zV_size
  obtain ⟨ZV, hZV⟩ : ∃ Z, Z = ktV zKt none 0 0 := ⟨_, rfl⟩
  rw [← hZV] at hzv R6 IZ hW
  generalize prV p = CP at *
  clear H h32 hZV hinv A1 A2 A3
  go_enter Try.func15, Try.ntmps15
  go_upto_region 1 with fail
  try rw [← hW1]
  try rw [← hW2]
  try rw [← hW]
  try rw [z2]
  try rw [z1]
  try rw [← hb6]
  try rw [← hbi]
  try rw [← hbp]
  clear hW hzv hb6 hW1 hW2 z1 z2 z3 hbp hbi
  go_wp2_with (first
    | (go_at_call 37; (with_reducible refine ON.out.mono ?_); rintro e w3 ⟨q, k3, v3, n3, rfl, b3⟩
       have HK3 := Lib.hid k3
       have HV3 := Lib.hid v3
       have HN3 := Lib.hid n3
       have HB3 := Lib.hid b3
       have R3 := Lib.hid (show w3.heap[b6]? = some (.cells ZV 49 (0, 0)) from (b3.block _ (lt_of_row R6.out)).trans R6.out)
       have IV := Lib.hid (show (Try.prog.info? 49).map (·.size) = some q.V.size from pkV_info k3.ok)
       have SV := Lib.hid (show ZV.size = q.V.size by rw [IZ.out]; exact (ktV_size k3.ok).symm)
       have OV := Lib.hid (show q.V.all (·.oneCell') = true from kt_ones)
       clear k3 v3 n3 b3)
    | (refine wpList_store_row rfl 49 (.tmp 6) (.tmp 11) rfl b6 q.V rfl rfl _ _ R3.out IV.out SV.out OV.out ?_))
  refine bodyPost_ret (v := .tuple #[.agg q.V, .int .i64 (pickP rg.l (fun x => decide (x.1.si = i) && govB x.1 p) 12).2]) (adC.results_cell_tmp Try.results15 _ _ b6 _ _ _ _ _ (by rfl) (setRow_heap _ _ _ _ _ _ R3.out) Try.underlying49 rfl IV.out (by rfl)) rfl ?_
  exact find_of HB.out HK3.out HV3.out HN3.out HB3.out H6.out.1 H6.out.2
set_option maxRecDepth 100000 in
set_option maxHeartbeats 4000000 in
theorem gets_any (w : World) (S : Nat → Prop) (t : Nat) (rg : Rg) (p : Pr) (i : Int) (h : Tb w S t rg) (hinv : Inv rg) (hp : p.Ok) (hi : Byte i) : Calls Try.prog 17 #[.pointer (some ⟨t, 0, none⟩), .agg (prV p), .int .u8 i] w (FindR w (getsP rg p i)) := by
  have hpk : getsP rg p i = pickP rg.l (fun x => decide (x.1.ri = i) && govB x.1 p) 12 := pick_both rg.l (fun x => govB x.1 p) (fun x => decide (x.1.ri = i)) 12
  rw [hpk]
  clear hpk
  obtain ⟨A, n, c, es, H⟩ := h
  have hzv := zeroPk
  have h32 := H.le32 hinv
  obtain ⟨W1, hW1⟩ : ∃ W, W = w.alloc (.cells (prV p) 30) := ⟨_, rfl⟩
  obtain ⟨W2, hW2⟩ : ∃ W, W = W1.alloc (.cells #[.int .u8 i] 5) := ⟨_, rfl⟩
  obtain ⟨W, hW⟩ : ∃ W, W = W2.alloc (.cells (ktV zKt none 0 0) 49) := ⟨_, rfl⟩
  have A1 : Below w.heap.size w W1 := by rw [hW1]; exact alloc_below _ _
  have z1 : W1.heap.size = w.heap.size + 1 := by rw [hW1, alloc_size]
  have A2 : Below W1.heap.size W1 W2 := by rw [hW2]; exact alloc_below _ _
  have z2 : W2.heap.size = w.heap.size + 2 := by rw [hW2, alloc_size, z1]
  have A3 : Below W2.heap.size W2 W := by rw [hW]; exact alloc_below _ _
  have z3 : W.heap.size = w.heap.size + 3 := by rw [hW, alloc_size, z2]
  obtain ⟨bp, hbp⟩ : ∃ b, b = w.heap.size := ⟨_, rfl⟩
  have Rbp := Lib.hid (show W.heap[bp]? = some (.cells (prV p) 30 (0, 0)) by rw [A3.block _ (by omega), A2.block _ (by omega), hbp, hW1]; exact heap_alloc_new _ _)
  obtain ⟨bi, hbi⟩ : ∃ b, b = w.heap.size + 1 := ⟨_, rfl⟩
  have Rbi := Lib.hid (show W.heap[bi]? = some (.cells #[.int .u8 i] 5 (0, 0)) by rw [A3.block _ (by omega), hbi, hW2, ← z1]; exact heap_alloc_new _ _)
  obtain ⟨b6, hb6⟩ : ∃ b, b = w.heap.size + 2 := ⟨_, rfl⟩
  have R6 := Lib.hid (show W.heap[b6]? = some (.cells (ktV zKt none 0 0) 49 (0, 0)) by rw [hW, hb6, ← z2]; exact heap_alloc_new _ _)
  have HB := Lib.hid (show Below w.heap.size w W from ((A1).trans (A2.mono (by omega))).trans (A3.mono (by omega)))
  have HT := Lib.hid (H.below HB.out)
  have HL := Lib.hid (And.intro H.len h32)
  have H6 := Lib.hid (show w.heap.size ≤ b6 ∧ b6 < W.heap.size from ⟨by omega, by omega⟩)
  have ON := Lib.hid (one_any W S t A n c es rg 12 (.func (.func 40) #[] #[.pointer (some ⟨bi, 0, none⟩), .pointer (some ⟨bp, 0, none⟩)]) (fun x => decide (x.1.ri = i) && govB x.1 p) HT.out hinv (fun w' hb => index_gets1 p i bi bp A 0 n c es w' ((HT.out.below hb).rowK) (fun e he => (HT.out.keys e he).ok) (by have := HL.out; omega) hp ((hb.block _ (lt_of_row Rbi.out)).trans Rbi.out) ((hb.block _ (lt_of_row Rbp.out)).trans Rbp.out)))
  have IZ := Lib.hid zV_size
  obtain ⟨ZV, hZV⟩ : ∃ Z, Z = ktV zKt none 0 0 := ⟨_, rfl⟩
  rw [← hZV] at hzv R6 IZ hW
  generalize prV p = CP at *
  clear H h32 hZV hinv A1 A2 A3
  go_enter Try.func17, Try.ntmps17
  go_upto_region 1 with fail
  try rw [← hW1]
  try rw [← hW2]
  try rw [← hW]
  try rw [z2]
  try rw [z1]
  try rw [← hb6]
  try rw [← hbi]
  try rw [← hbp]
  clear hW hzv hb6 hW1 hW2 z1 z2 z3 hbp hbi
  go_wp2_with (first
    | (go_at_call 37; (with_reducible refine ON.out.mono ?_); rintro e w3 ⟨q, k3, v3, n3, rfl, b3⟩
       have HK3 := Lib.hid k3
       have HV3 := Lib.hid v3
       have HN3 := Lib.hid n3
       have HB3 := Lib.hid b3
       have R3 := Lib.hid (show w3.heap[b6]? = some (.cells ZV 49 (0, 0)) from (b3.block _ (lt_of_row R6.out)).trans R6.out)
       have IV := Lib.hid (show (Try.prog.info? 49).map (·.size) = some q.V.size from pkV_info k3.ok)
       have SV := Lib.hid (show ZV.size = q.V.size by rw [IZ.out]; exact (ktV_size k3.ok).symm)
       have OV := Lib.hid (show q.V.all (·.oneCell') = true from kt_ones)
       clear k3 v3 n3 b3)
    | (refine wpList_store_row rfl 49 (.tmp 6) (.tmp 11) rfl b6 q.V rfl rfl _ _ R3.out IV.out SV.out OV.out ?_))
  refine bodyPost_ret (v := .tuple #[.agg q.V, .int .i64 (pickP rg.l (fun x => decide (x.1.ri = i) && govB x.1 p) 12).2]) (adC.results_cell_tmp Try.results17 _ _ b6 _ _ _ _ _ (by rfl) (setRow_heap _ _ _ _ _ _ R3.out) Try.underlying49 rfl IV.out (by rfl)) rfl ?_
  exact find_of HB.out HK3.out HV3.out HN3.out HB3.out H6.out.1 H6.out.2
/-! ### some -/
theorem kq_stand {w w' : World} {base : Nat} {q : Ke} (h : KeAt w w.heap.size q ∧ memC.Own .u8 5 w base (.slice q.A q.n q.c) q.m) (hs : w.heap.size ≤ w'.heap.size) (hb : ∀ b, (Value.slice q.A q.n q.c).ownBlock = some b → w'.heap[b]? = w.heap[b]?) : KeAt w' w'.heap.size q ∧ memC.Own .u8 5 w' base (.slice q.A q.n q.c) q.m :=
  ⟨h.1.stand hs (fun b o e => hb b (by rw [e]; rfl)), owns_stand h.2 hb⟩
theorem kq_below {w w' : World} {base : Nat} {q : Ke} (h : KeAt w w.heap.size q ∧ memC.Own .u8 5 w base (.slice q.A q.n q.c) q.m) (hb : Below w.heap.size w w') : KeAt w' w'.heap.size q ∧ memC.Own .u8 5 w' base (.slice q.A q.n q.c) q.m :=
  kq_stand h hb.size fun b e => hb.block b (h.2.blk b e).2
theorem own_apart {w : World} {base base' : Nat} {v v' : Value} {m : List Int} {es : List Ke} (h : memC.Own .u8 5 w base v m) (h' : OwnP w base' v' es) {b : Nat} (hb : v.ownBlock = some b) : v'.ownBlock ≠ some b := fun hb' => by
  rcases h.2 with ⟨rfl, -⟩ | ⟨g, cap, cur, rfl, -, hh, -⟩
  · cases hb
  · rcases h'.2 with ⟨rfl, -⟩ | ⟨g', cap', cur', rfl, -, hh', -⟩
    · cases hb'
    · have e1 : g = b := Option.some.inj hb
      have e2 : g' = b := Option.some.inj hb'
      rw [e1] at hh
      rw [e2, hh] at hh'
      injection hh' with hh'
      injection hh' with _ e3 _
      exact absurd e3 (by decide)
theorem rowP1 {w : World} {g lo : Nat} {T : TypeId} {e : Ke} (hr : w.heap[g]? = some (.cells e.V T (0, 0))) (hlo : lo ≤ g) : RowK w lo w.heap.size (some ⟨g, 0, none⟩) 1 [e] := rowK1 hr hlo
set_option maxRecDepth 100000 in
set_option maxHeartbeats 4000000 in
theorem those_all  (w : World) (S : Nat → Prop) (t : Nat) (rg : Rg) (h : Tb w S t rg) (hinv : Inv rg)  : Calls Try.prog 43 #[.pointer (some ⟨t, 0, none⟩), .func (.func 44) #[] #[]] w (TellR w (rg.l.filter (fun _ => true))) := by
  obtain ⟨A, n, c, es, H⟩ := h
  have h32 := H.le32 hinv
  have HT := Lib.hid H
  have HI := Lib.hid hinv
  have HL := Lib.hid (And.intro H.len h32)
  have MD := Lib.hid (made_any HT.out)
  have c1 := HT.out.c1
  obtain ⟨pr, hpr⟩ : ∃ f : Kp → Bool, f = fun _ => true := ⟨_, rfl⟩
  rw [← hpr]
  have CC := Lib.hid (fun (x : Ke) (hxm : x ∈ es) w2 (hb2 : Below w.heap.size w w2) => (show Calls Try.prog 44 #[.agg x.V] w2 (Ret w2 (.bool (pr x.val))) by rw [hpr]; exact all1_any x w2))
  have HZV := Lib.hid zeroPk
  clear H h32 hinv hpr 
  go_enter Try.func43, Try.ntmps43
  go_upto_region 5 with (go_at_call 26; refine MD.out.mono ?_; rintro e w2 ⟨rfl, hw⟩; obtain rfl := hw.symm)
  clear MD c1
  go_loopw [5, 16] (fun v u wr => ∃ (k : Nat) (A' : Option Addr) (n' c' : Nat) (fs : List Ke), k ≤ n ∧ u = .int .i64 k ∧ v = .slice A' n' c' ∧ n' ≤ c' ∧ fs.length = n' ∧ OwnP wr w.heap.size (.slice A' n' c') fs ∧ fs.map Ke.val = ((es.take k).map Ke.val).filter pr ∧ (∀ q ∈ fs, KeAt wr wr.heap.size q ∧ memC.Own .u8 5 wr w.heap.size (.slice q.A q.n q.c) q.m) ∧ Below w.heap.size w wr) (fun v u _ => n - (intOf u).toNat)
  case atStart => exact ⟨0, none, 0, 0, [], Nat.zero_le _, rfl, rfl, Nat.le_refl _, rfl, ⟨rfl, .inl ⟨rfl, rfl⟩⟩, rfl, (fun q hq => by cases hq), Below.refl _ _⟩
  case round =>
    obtain ⟨k, A', n', c', fs, hk, rfl, rfl, hnc, hfl, hown, hfv, hfk, hbw⟩ := hrel
    have HNC := Lib.hid hnc
    have HFL := Lib.hid hfl
    have HO := Lib.hid hown
    have HFV := Lib.hid hfv
    have HFK := Lib.hid hfk
    have HBW := Lib.hid hbw
    clear hnc hfl hown hfv hfk
    by_cases hlt : k < n
    rotate_left
    · have q6 : ¬ (k : Int) < (n : Int) := by omega
      have HE := Lib.hid (show fs.map Ke.val = rg.l.filter pr by
        have h := HFV.out
        rwa [List.take_of_length_le (by have := HL.out; omega), HT.out.val] at h)
      clear hlt hk hbw
      go_wp2_with fail
      go_ret
      exact ⟨A', n', c', fs, rfl, HNC.out, HO.out, HFL.out, HE.out, HFK.out, HBW.out⟩
    have q6 : (k : Int) < (n : Int) := by omega
    obtain ⟨x, hx⟩ : ∃ x, es[k]? = some x := ⟨_, List.getElem?_eq_getElem (by rw [HL.out.1]; exact hlt)⟩
    have hxm := List.mem_of_getElem? hx
    have HTR := Lib.hid (HT.out.below hbw)
    have kx := HTR.out.keys x hxm
    obtain ⟨b, of_, hA, hlo, hbl, hc⟩ := HTR.out.rowK.at_ (by omega)
    have l26 : x.L.length = 26 := Ke.L_len kx
    have CL := Lib.hid (show ∀ j v, x.L[j]? = some v → wr.cell? ⟨b, of_ + k * 26 + j, none⟩ = some v from fun j v hv => hc k x hx j v hv)
    have IX := Lib.hid (show (Try.prog.info? 49).map (·.size) = some x.L.length from pkL_info kx.ok)
    have IV := Lib.hid (show (Try.prog.info? 49).map (·.size) = some x.L.toArray.size by rw [List.size_toArray]; exact pkL_info kx.ok)
    have ZX := Lib.hid (show (ktV zKt none 0 0).size = x.L.toArray.size by rw [zV_size, List.size_toArray, l26])
    have OX := Lib.hid (show x.L.toArray.all (·.oneCell') = true from kt_ones)
    have HT1 := Lib.hid (show es.take (k + 1) = es.take k ++ [x] by rw [List.take_add_one, hx]; rfl)
    have LF := Lib.hid (show n' ≤ 1000 by
      have h1 := congrArg List.length HFV.out
      rw [List.length_map, HFL.out] at h1
      have h2 := List.length_filter_le pr ((es.take k).map Ke.val)
      rw [List.length_map, List.length_take] at h2
      have := HL.out
      omega)
    obtain ⟨w4, hw4⟩ : ∃ w4, w4 = wr.alloc (.cells x.L.toArray 49) := ⟨_, rfl⟩
    obtain ⟨g4, hg4⟩ : ∃ g, g = wr.heap.size := ⟨_, rfl⟩
    have R4 := Lib.hid (show w4.heap[g4]? = some (.cells x.L.toArray 49 (0, 0)) by rw [hw4, hg4]; exact heap_alloc_new _ _)
    have AB4 := Lib.hid (show Below wr.heap.size wr w4 by rw [hw4]; exact alloc_below _ _)
    have HB4 := Lib.hid (HBW.out.trans (AB4.out.mono HBW.out.size))
    have CQ := Lib.hid (show Calls Try.prog 44 #[.agg x.L.toArray] w4 (Ret w4 (.bool (pr x.val))) from CC.out x hxm w4 HB4.out)
    have KX4 := Lib.hid (show KeAt w4 w4.heap.size x from kx.below AB4.out AB4.out.size)
    have SX := Lib.hid (show x.n ≤ 1000 by have := HTR.out.small HI.out hxm; omega)
    have wi : IntKind.i64.wrap ((k : Int) + 1) = (k : Int) + 1 := IntWalk.i64_in _ (by have := HL.out; omega)
    have HKN := Lib.hid hlt
    have hzv := HZV.out
    generalize hZS : ktV zKt none 0 0 = ZS at *
    subst hA
    clear hx hxm kx hlo hbl hc l26 hbw hlt hk hZS
    obtain ⟨CX, hCX⟩ : ∃ L, L = x.L := ⟨_, rfl⟩
    have HCX := Lib.hid hCX
    rw [← hCX] at CL IX IV ZX OX hw4 R4 CQ
    clear hCX
    go_upto_region 7 with (first
      | (refine pkC.wpList_load_partG (by kernel_rfl) 49 (.tmp 18) rfl b (of_ + k * 26) (by kernel_rfl) CX _ CL.out Try.underlying49 rfl IX.out ?_)
      | (refine wpList_store_row rfl 49 (.tmp 7) (.tmp 19) rfl wr.heap.size CX.toArray rfl rfl _ _ (heap_alloc_new _ _) IV.out ZX.out OX.out ?_; rw [World.setRow_alloc_new]))
    rw [← hw4, ← hg4]
    clear hw4 hg4 hzv
    cases hpx : pr x.val
    · rw [hpx] at CQ
      have HF := Lib.hid (show fs.map Ke.val = ((es.take (k + 1)).map Ke.val).filter pr by rw [HT1.out, List.map_append, List.filter_append, HFV.out]; simp [hpx])
      clear hpx
      go_wp2_with (first
        | (refine wpList_load_row rfl 49 (.tmp 7) rfl g4 rfl _ _ _ _ R4.out Try.underlying49 rfl IV.out ?_)
        | (refine CQ.out.mono ?_; rintro e w5 ⟨rfl, hb5⟩; have HB5 := Lib.hid hb5; clear hb5))
      go_roundw
      case rel =>
        have hb : Below wr.heap.size wr w5 := AB4.out.trans (HB5.out.mono AB4.out.size)
        exact ⟨k + 1, A', n', c', fs, by have := HKN.out; omega, by go_num, rfl, HNC.out, HFL.out, own_stand HO.out (fun g hg => hb.block g (HO.out.lt g hg).2), HF.out, fun q hq => kq_below (HFK.out q hq) hb, HBW.out.trans (hb.mono HBW.out.size)⟩
      case measure => have := HKN.out; simp [intOf]; omega
    · rw [hpx] at CQ
      go_upto_region 8 with (first
        | (refine wpList_load_row rfl 49 (.tmp 7) rfl g4 rfl _ _ _ _ R4.out Try.underlying49 rfl IV.out ?_)
        | (refine CQ.out.mono ?_; rintro e w5 ⟨rfl, hb5⟩; have HB5 := Lib.hid hb5; clear hb5))
      have R5 := Lib.hid (show w5.heap[g4]? = some (.cells CX.toArray 49 (0, 0)) from (HB5.out.block _ (lt_of_row R4.out)).trans R4.out)
      have OW := Lib.hid (show Calls Try.prog 34 #[.agg CX.toArray] w5 (OwnQ w5 x) by rw [HCX.out]; exact own_any x w5 (KX4.out.below HB5.out HB5.out.size) SX.out)
      have HBR := Lib.hid (show Below wr.heap.size wr w5 from AB4.out.trans (HB5.out.mono AB4.out.size))
      have HP := Lib.hid hpx
      clear hpx HB5 CQ KX4
      have KO := Lib.hid (show x.k.Ok from (HT.out.keys x (List.mem_of_mem_take (i := k + 1) (by rw [HT1.out]; simp))).ok)
      have XL := Lib.hid (show x.m.length = x.n from (HT.out.keys x (List.mem_of_mem_take (i := k + 1) (by rw [HT1.out]; simp))).len)
      have L2 := Lib.hid (show ∀ q ∈ fs, q.L.length = 26 from fun q hq => Ke.L_len (HFK.out q hq).1)
      go_upto_region 9 with (first
        | (refine wpList_load_row rfl 49 (.tmp 7) rfl g4 rfl _ _ _ _ R5.out Try.underlying49 rfl IV.out ?_)
        | (go_at_call 34; (with_reducible refine OW.out.mono ?_); rintro e w6 ⟨B, d, rfl, k6, o6, b6⟩
           have HK6 := Lib.hid k6
           have HO6 := Lib.hid o6
           have HB6 := Lib.hid b6
           have HR6 := Lib.hid (HBR.out.trans (b6.mono HBR.out.size))
           have O6 := Lib.hid (show OwnP w6 w.heap.size (.slice A' n' c') fs from own_stand HO.out (fun g hg => HR6.out.block g (HO.out.lt g hg).2))
           have AB7 := Lib.hid (alloc_below w6 (.cells (ktV x.k B x.n d) 49))
           have O7 := Lib.hid (show OwnP (w6.alloc (.cells (ktV x.k B x.n d) 49)) w.heap.size (.slice A' n' c') fs from own_stand O6.out (fun g hg => AB7.out.block g (O6.out.lt g hg).2))
           have RW := Lib.hid (rowP1 (w := w6.alloc (.cells (ktV x.k B x.n d) 49)) (lo := 0) (e := ⟨x.k, B, x.n, d, x.m⟩) (T := 49) (heap_alloc_new _ _) (Nat.zero_le _))
           have LW := Lib.hid (show w.heap.size ≤ (w6.alloc (.cells (ktV x.k B x.n d) 49)).heap.size from Nat.le_trans HBW.out.size (Nat.le_trans HR6.out.size AB7.out.size))
           have SQ := Lib.hid (show (ktV x.k B x.n d).size = 26 from ktV_size KO.out)
           have LQ := Lib.hid (show ∀ e ∈ [(⟨x.k, B, x.n, d, x.m⟩ : Ke)], e.L.length = 26 from fun e he => by rw [List.mem_singleton.1 he]; exact ktL_len KO.out)
           clear k6 o6 b6)
        | (refine wpList_slicePt rfl (.tmp 25) rfl (ktV x.k B x.n d) rfl SQ.out ?_)
        | (at_builtin
           (refine wpList_appP _ rfl (.tmp 23) (.tmp 26) rfl w.heap.size _ fs rfl O7.out L2.out _ _ _ 1 1 [⟨x.k, B, x.n, d, x.m⟩] rfl RW.out LQ.out (by have := LF.out; have := HFL.out; omega) (by decide) LW.out (n' + 1) (by rw [HFL.out]) ?_)
           intro A11 c11 w8 gl O8 B8 G8
           have HC11 := Lib.hid gl
           have HO8 := Lib.hid O8
           have HB8 := Lib.hid B8
           have HG8 := Lib.hid G8
           clear gl O8 B8 G8))
      have HF := Lib.hid (show (fs ++ [(⟨x.k, B, x.n, d, x.m⟩ : Ke)]).map Ke.val = ((es.take (k + 1)).map Ke.val).filter pr by
        rw [HT1.out, List.map_append, List.map_append, List.filter_append, HFV.out]
        have : ([x].map Ke.val).filter pr = [x.val] := by simp [HP.out]
        rw [this]; rfl)
      have HQ8 := Lib.hid (show ∀ q ∈ fs ++ [(⟨x.k, B, x.n, d, x.m⟩ : Ke)], KeAt w8 w8.heap.size q ∧ memC.Own .u8 5 w8 w.heap.size (.slice q.A q.n q.c) q.m by
        intro q hq
        have h7 : KeAt (w6.alloc (.cells (ktV x.k B x.n d) 49)) (w6.alloc (.cells (ktV x.k B x.n d) 49)).heap.size q ∧ memC.Own .u8 5 (w6.alloc (.cells (ktV x.k B x.n d) 49)) w.heap.size (.slice q.A q.n q.c) q.m := by
          rcases List.mem_append.1 hq with h | h
          · exact kq_below (kq_below (HFK.out q h) HR6.out) AB7.out
          · rw [List.mem_singleton.1 h]
            exact kq_below ⟨HK6.out, HO6.out.less (Nat.le_trans HBW.out.size HBR.out.size)⟩ AB7.out
        exact kq_stand h7 HG8.out.size (fun b hb => HG8.out.block b (h7.2.blk b hb).2 (fun e => own_apart h7.2 O7.out hb e.symm)))
      clear HO6 HK6 OW
      go_wp2_with fail
      go_roundw
      case rel => exact ⟨k + 1, A11, n' + 1, c11, fs ++ [⟨x.k, B, x.n, d, x.m⟩], by have := HKN.out; omega, by go_num, rfl, HC11.out, by rw [List.length_append, HFL.out]; rfl, HO8.out, HF.out, HQ8.out, (HBW.out.trans ((HR6.out.trans (AB7.out.mono HR6.out.size)).mono HBW.out.size)).trans HB8.out⟩
      case measure => have := HKN.out; simp [intOf]; omega
set_option maxRecDepth 100000 in
set_option maxHeartbeats 4000000 in
theorem those_for (p : Pr) (bp : Nat) (w : World) (S : Nat → Prop) (t : Nat) (rg : Rg) (h : Tb w S t rg) (hinv : Inv rg) (hp : p.Ok) (Rp : w.heap[bp]? = some (.cells (prV p) 30 (0, 0))) : Calls Try.prog 43 #[.pointer (some ⟨t, 0, none⟩), .func (.func 45) #[] #[.pointer (some ⟨bp, 0, none⟩)]] w (TellR w (rg.l.filter (fun x => govB x.1 p))) := by
  obtain ⟨A, n, c, es, H⟩ := h
  have h32 := H.le32 hinv
  have HT := Lib.hid H
  have HI := Lib.hid hinv
  have HL := Lib.hid (And.intro H.len h32)
  have MD := Lib.hid (made_any HT.out)
  have c1 := HT.out.c1
  have HX := Lib.hid Rp
  have HP := Lib.hid hp
  obtain ⟨pr, hpr⟩ : ∃ f : Kp → Bool, f = fun x => govB x.1 p := ⟨_, rfl⟩
  rw [← hpr]
  have CC := Lib.hid (fun (x : Ke) (hxm : x ∈ es) w2 (hb2 : Below w.heap.size w w2) => (show Calls Try.prog 45 #[.agg x.V, .pointer (some ⟨bp, 0, none⟩)] w2 (Ret w2 (.bool (pr x.val))) by rw [hpr]; exact for1_any x p bp w2 (HT.out.keys x hxm).ok HP.out ((hb2.block _ (lt_of_row HX.out)).trans HX.out)))
  have HZV := Lib.hid zeroPk
  clear H h32 hinv hpr Rp hp
  go_enter Try.func43, Try.ntmps43
  go_upto_region 5 with (go_at_call 26; refine MD.out.mono ?_; rintro e w2 ⟨rfl, hw⟩; obtain rfl := hw.symm)
  clear MD c1
  go_loopw [5, 16] (fun v u wr => ∃ (k : Nat) (A' : Option Addr) (n' c' : Nat) (fs : List Ke), k ≤ n ∧ u = .int .i64 k ∧ v = .slice A' n' c' ∧ n' ≤ c' ∧ fs.length = n' ∧ OwnP wr w.heap.size (.slice A' n' c') fs ∧ fs.map Ke.val = ((es.take k).map Ke.val).filter pr ∧ (∀ q ∈ fs, KeAt wr wr.heap.size q ∧ memC.Own .u8 5 wr w.heap.size (.slice q.A q.n q.c) q.m) ∧ Below w.heap.size w wr) (fun v u _ => n - (intOf u).toNat)
  case atStart => exact ⟨0, none, 0, 0, [], Nat.zero_le _, rfl, rfl, Nat.le_refl _, rfl, ⟨rfl, .inl ⟨rfl, rfl⟩⟩, rfl, (fun q hq => by cases hq), Below.refl _ _⟩
  case round =>
    obtain ⟨k, A', n', c', fs, hk, rfl, rfl, hnc, hfl, hown, hfv, hfk, hbw⟩ := hrel
    have HNC := Lib.hid hnc
    have HFL := Lib.hid hfl
    have HO := Lib.hid hown
    have HFV := Lib.hid hfv
    have HFK := Lib.hid hfk
    have HBW := Lib.hid hbw
    clear hnc hfl hown hfv hfk
    by_cases hlt : k < n
    rotate_left
    · have q6 : ¬ (k : Int) < (n : Int) := by omega
      have HE := Lib.hid (show fs.map Ke.val = rg.l.filter pr by
        have h := HFV.out
        rwa [List.take_of_length_le (by have := HL.out; omega), HT.out.val] at h)
      clear hlt hk hbw
      go_wp2_with fail
      go_ret
      exact ⟨A', n', c', fs, rfl, HNC.out, HO.out, HFL.out, HE.out, HFK.out, HBW.out⟩
    have q6 : (k : Int) < (n : Int) := by omega
    obtain ⟨x, hx⟩ : ∃ x, es[k]? = some x := ⟨_, List.getElem?_eq_getElem (by rw [HL.out.1]; exact hlt)⟩
    have hxm := List.mem_of_getElem? hx
    have HTR := Lib.hid (HT.out.below hbw)
    have kx := HTR.out.keys x hxm
    obtain ⟨b, of_, hA, hlo, hbl, hc⟩ := HTR.out.rowK.at_ (by omega)
    have l26 : x.L.length = 26 := Ke.L_len kx
    have CL := Lib.hid (show ∀ j v, x.L[j]? = some v → wr.cell? ⟨b, of_ + k * 26 + j, none⟩ = some v from fun j v hv => hc k x hx j v hv)
    have IX := Lib.hid (show (Try.prog.info? 49).map (·.size) = some x.L.length from pkL_info kx.ok)
    have IV := Lib.hid (show (Try.prog.info? 49).map (·.size) = some x.L.toArray.size by rw [List.size_toArray]; exact pkL_info kx.ok)
    have ZX := Lib.hid (show (ktV zKt none 0 0).size = x.L.toArray.size by rw [zV_size, List.size_toArray, l26])
    have OX := Lib.hid (show x.L.toArray.all (·.oneCell') = true from kt_ones)
    have HT1 := Lib.hid (show es.take (k + 1) = es.take k ++ [x] by rw [List.take_add_one, hx]; rfl)
    have LF := Lib.hid (show n' ≤ 1000 by
      have h1 := congrArg List.length HFV.out
      rw [List.length_map, HFL.out] at h1
      have h2 := List.length_filter_le pr ((es.take k).map Ke.val)
      rw [List.length_map, List.length_take] at h2
      have := HL.out
      omega)
    obtain ⟨w4, hw4⟩ : ∃ w4, w4 = wr.alloc (.cells x.L.toArray 49) := ⟨_, rfl⟩
    obtain ⟨g4, hg4⟩ : ∃ g, g = wr.heap.size := ⟨_, rfl⟩
    have R4 := Lib.hid (show w4.heap[g4]? = some (.cells x.L.toArray 49 (0, 0)) by rw [hw4, hg4]; exact heap_alloc_new _ _)
    have AB4 := Lib.hid (show Below wr.heap.size wr w4 by rw [hw4]; exact alloc_below _ _)
    have HB4 := Lib.hid (HBW.out.trans (AB4.out.mono HBW.out.size))
    have CQ := Lib.hid (show Calls Try.prog 45 #[.agg x.L.toArray, .pointer (some ⟨bp, 0, none⟩)] w4 (Ret w4 (.bool (pr x.val))) from CC.out x hxm w4 HB4.out)
    have KX4 := Lib.hid (show KeAt w4 w4.heap.size x from kx.below AB4.out AB4.out.size)
    have SX := Lib.hid (show x.n ≤ 1000 by have := HTR.out.small HI.out hxm; omega)
    have wi : IntKind.i64.wrap ((k : Int) + 1) = (k : Int) + 1 := IntWalk.i64_in _ (by have := HL.out; omega)
    have HKN := Lib.hid hlt
    have hzv := HZV.out
    generalize hZS : ktV zKt none 0 0 = ZS at *
    subst hA
    clear hx hxm kx hlo hbl hc l26 hbw hlt hk hZS
    obtain ⟨CX, hCX⟩ : ∃ L, L = x.L := ⟨_, rfl⟩
    have HCX := Lib.hid hCX
    rw [← hCX] at CL IX IV ZX OX hw4 R4 CQ
    clear hCX
    go_upto_region 7 with (first
      | (refine pkC.wpList_load_partG (by kernel_rfl) 49 (.tmp 18) rfl b (of_ + k * 26) (by kernel_rfl) CX _ CL.out Try.underlying49 rfl IX.out ?_)
      | (refine wpList_store_row rfl 49 (.tmp 7) (.tmp 19) rfl wr.heap.size CX.toArray rfl rfl _ _ (heap_alloc_new _ _) IV.out ZX.out OX.out ?_; rw [World.setRow_alloc_new]))
    rw [← hw4, ← hg4]
    clear hw4 hg4 hzv
    cases hpx : pr x.val
    · rw [hpx] at CQ
      have HF := Lib.hid (show fs.map Ke.val = ((es.take (k + 1)).map Ke.val).filter pr by rw [HT1.out, List.map_append, List.filter_append, HFV.out]; simp [hpx])
      clear hpx
      go_wp2_with (first
        | (refine wpList_load_row rfl 49 (.tmp 7) rfl g4 rfl _ _ _ _ R4.out Try.underlying49 rfl IV.out ?_)
        | (refine CQ.out.mono ?_; rintro e w5 ⟨rfl, hb5⟩; have HB5 := Lib.hid hb5; clear hb5))
      go_roundw
      case rel =>
        have hb : Below wr.heap.size wr w5 := AB4.out.trans (HB5.out.mono AB4.out.size)
        exact ⟨k + 1, A', n', c', fs, by have := HKN.out; omega, by go_num, rfl, HNC.out, HFL.out, own_stand HO.out (fun g hg => hb.block g (HO.out.lt g hg).2), HF.out, fun q hq => kq_below (HFK.out q hq) hb, HBW.out.trans (hb.mono HBW.out.size)⟩
      case measure => have := HKN.out; simp [intOf]; omega
    · rw [hpx] at CQ
      go_upto_region 8 with (first
        | (refine wpList_load_row rfl 49 (.tmp 7) rfl g4 rfl _ _ _ _ R4.out Try.underlying49 rfl IV.out ?_)
        | (refine CQ.out.mono ?_; rintro e w5 ⟨rfl, hb5⟩; have HB5 := Lib.hid hb5; clear hb5))
      have R5 := Lib.hid (show w5.heap[g4]? = some (.cells CX.toArray 49 (0, 0)) from (HB5.out.block _ (lt_of_row R4.out)).trans R4.out)
      have OW := Lib.hid (show Calls Try.prog 34 #[.agg CX.toArray] w5 (OwnQ w5 x) by rw [HCX.out]; exact own_any x w5 (KX4.out.below HB5.out HB5.out.size) SX.out)
      have HBR := Lib.hid (show Below wr.heap.size wr w5 from AB4.out.trans (HB5.out.mono AB4.out.size))
      have HP := Lib.hid hpx
      clear hpx HB5 CQ KX4
      have KO := Lib.hid (show x.k.Ok from (HT.out.keys x (List.mem_of_mem_take (i := k + 1) (by rw [HT1.out]; simp))).ok)
      have XL := Lib.hid (show x.m.length = x.n from (HT.out.keys x (List.mem_of_mem_take (i := k + 1) (by rw [HT1.out]; simp))).len)
      have L2 := Lib.hid (show ∀ q ∈ fs, q.L.length = 26 from fun q hq => Ke.L_len (HFK.out q hq).1)
      go_upto_region 9 with (first
        | (refine wpList_load_row rfl 49 (.tmp 7) rfl g4 rfl _ _ _ _ R5.out Try.underlying49 rfl IV.out ?_)
        | (go_at_call 34; (with_reducible refine OW.out.mono ?_); rintro e w6 ⟨B, d, rfl, k6, o6, b6⟩
           have HK6 := Lib.hid k6
           have HO6 := Lib.hid o6
           have HB6 := Lib.hid b6
           have HR6 := Lib.hid (HBR.out.trans (b6.mono HBR.out.size))
           have O6 := Lib.hid (show OwnP w6 w.heap.size (.slice A' n' c') fs from own_stand HO.out (fun g hg => HR6.out.block g (HO.out.lt g hg).2))
           have AB7 := Lib.hid (alloc_below w6 (.cells (ktV x.k B x.n d) 49))
           have O7 := Lib.hid (show OwnP (w6.alloc (.cells (ktV x.k B x.n d) 49)) w.heap.size (.slice A' n' c') fs from own_stand O6.out (fun g hg => AB7.out.block g (O6.out.lt g hg).2))
           have RW := Lib.hid (rowP1 (w := w6.alloc (.cells (ktV x.k B x.n d) 49)) (lo := 0) (e := ⟨x.k, B, x.n, d, x.m⟩) (T := 49) (heap_alloc_new _ _) (Nat.zero_le _))
           have LW := Lib.hid (show w.heap.size ≤ (w6.alloc (.cells (ktV x.k B x.n d) 49)).heap.size from Nat.le_trans HBW.out.size (Nat.le_trans HR6.out.size AB7.out.size))
           have SQ := Lib.hid (show (ktV x.k B x.n d).size = 26 from ktV_size KO.out)
           have LQ := Lib.hid (show ∀ e ∈ [(⟨x.k, B, x.n, d, x.m⟩ : Ke)], e.L.length = 26 from fun e he => by rw [List.mem_singleton.1 he]; exact ktL_len KO.out)
           clear k6 o6 b6)
        | (refine wpList_slicePt rfl (.tmp 25) rfl (ktV x.k B x.n d) rfl SQ.out ?_)
        | (at_builtin
           (refine wpList_appP _ rfl (.tmp 23) (.tmp 26) rfl w.heap.size _ fs rfl O7.out L2.out _ _ _ 1 1 [⟨x.k, B, x.n, d, x.m⟩] rfl RW.out LQ.out (by have := LF.out; have := HFL.out; omega) (by decide) LW.out (n' + 1) (by rw [HFL.out]) ?_)
           intro A11 c11 w8 gl O8 B8 G8
           have HC11 := Lib.hid gl
           have HO8 := Lib.hid O8
           have HB8 := Lib.hid B8
           have HG8 := Lib.hid G8
           clear gl O8 B8 G8))
      have HF := Lib.hid (show (fs ++ [(⟨x.k, B, x.n, d, x.m⟩ : Ke)]).map Ke.val = ((es.take (k + 1)).map Ke.val).filter pr by
        rw [HT1.out, List.map_append, List.map_append, List.filter_append, HFV.out]
        have : ([x].map Ke.val).filter pr = [x.val] := by simp [HP.out]
        rw [this]; rfl)
      have HQ8 := Lib.hid (show ∀ q ∈ fs ++ [(⟨x.k, B, x.n, d, x.m⟩ : Ke)], KeAt w8 w8.heap.size q ∧ memC.Own .u8 5 w8 w.heap.size (.slice q.A q.n q.c) q.m by
        intro q hq
        have h7 : KeAt (w6.alloc (.cells (ktV x.k B x.n d) 49)) (w6.alloc (.cells (ktV x.k B x.n d) 49)).heap.size q ∧ memC.Own .u8 5 (w6.alloc (.cells (ktV x.k B x.n d) 49)) w.heap.size (.slice q.A q.n q.c) q.m := by
          rcases List.mem_append.1 hq with h | h
          · exact kq_below (kq_below (HFK.out q h) HR6.out) AB7.out
          · rw [List.mem_singleton.1 h]
            exact kq_below ⟨HK6.out, HO6.out.less (Nat.le_trans HBW.out.size HBR.out.size)⟩ AB7.out
        exact kq_stand h7 HG8.out.size (fun b hb => HG8.out.block b (h7.2.blk b hb).2 (fun e => own_apart h7.2 O7.out hb e.symm)))
      clear HO6 HK6 OW
      go_wp2_with fail
      go_roundw
      case rel => exact ⟨k + 1, A11, n' + 1, c11, fs ++ [⟨x.k, B, x.n, d, x.m⟩], by have := HKN.out; omega, by go_num, rfl, HC11.out, by rw [List.length_append, HFL.out]; rfl, HO8.out, HF.out, HQ8.out, (HBW.out.trans ((HR6.out.trans (AB7.out.mono HR6.out.size)).mono HBW.out.size)).trans HB8.out⟩
      case measure => have := HKN.out; simp [intOf]; omega
set_option maxRecDepth 100000 in
set_option maxHeartbeats 4000000 in
theorem all_any (w : World) (S : Nat → Prop) (t : Nat) (rg : Rg) (h : Tb w S t rg) (hinv : Inv rg) : Calls Try.prog 23 #[.pointer (some ⟨t, 0, none⟩)] w (TellR w rg.l) := by
  have TH := Lib.hid (those_all w S t rg h hinv)
  rw [List.filter_eq_self.2 (fun x _ => rfl)] at TH
  clear h hinv
  go_enter Try.func23, Try.ntmps23
  go_wp2_with (go_at_call 43; (with_reducible refine TH.out.mono ?_); rintro e w2 ⟨A, n, c, es, rfl, hr⟩; have HR := Lib.hid hr; clear hr)
  go_ret
  exact ⟨A, n, c, es, rfl, HR.out⟩
theorem tell_up {w W w' : World} {l : List Kp} {e : Ending} (hb : Below w.heap.size w W) (h : TellR W l e w') : TellR w l e w' := by
  obtain ⟨A, n, c, es, h1, h2, h3, h4, h5, h6, h7⟩ := h
  refine ⟨A, n, c, es, h1, h2, ?_, h4, h5, fun q hq => ⟨(h6 q hq).1, (h6 q hq).2.less hb.size⟩, hb.trans (h7.mono hb.size)⟩
  refine ⟨h3.1, ?_⟩
  rcases h3.2 with h0 | ⟨g, cap, cur, e1, hg, h'⟩
  · exact .inl h0
  · exact .inr ⟨g, cap, cur, e1, Nat.le_trans hb.size hg, h'⟩
set_option maxRecDepth 100000 in
set_option maxHeartbeats 4000000 in
theorem for_any (w : World) (S : Nat → Prop) (t : Nat) (rg : Rg) (p : Pr) (h : Tb w S t rg) (hinv : Inv rg) (hp : p.Ok) : Calls Try.prog 24 #[.pointer (some ⟨t, 0, none⟩), .agg (prV p)] w (TellR w (forL rg p)) := by
  obtain ⟨A, n, c, es, H⟩ := h
  obtain ⟨W, hW⟩ : ∃ W, W = w.alloc (.cells (prV p) 30) := ⟨_, rfl⟩
  have HB := Lib.hid (show Below w.heap.size w W by rw [hW]; exact alloc_below _ _)
  have TH := Lib.hid (those_for p w.heap.size W S t rg ⟨A, n, c, es, H.below HB.out⟩ hinv hp (by rw [hW]; exact heap_alloc_new _ _))
  rw [forL_def]
  obtain ⟨l, hl⟩ : ∃ l, l = rg.l.filter fun x => govB x.1 p := ⟨_, rfl⟩
  rw [← hl] at TH ⊢
  generalize prV p = CP at *
  clear H hinv hp hl
  go_enter Try.func24, Try.ntmps24
  go_upto_region 1 with fail
  rw [← hW]
  clear hW
  go_wp2_with (go_at_call 43; (with_reducible refine TH.out.mono ?_); rintro e w2 ⟨A, n, c, es, rfl, hr⟩; have HR := Lib.hid hr; clear hr)
  go_ret
  exact tell_up HB.out ⟨A, n, c, es, rfl, HR.out⟩
end Go.Proofs.Ytflfkhcbkhdahaa.mkC
