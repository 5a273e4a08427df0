/-
  1 texts of a proof, joined.
-/
import Derived.Test.YthbgjjfhgbkbdaaMg18

/-
  CMAC: the document's Of.
-/
namespace Go.Proofs.Ythbgjjfhgbkbdaa.aesC
open Go.ChangeShapes Go.WideShapes Go.ChangeAt Go.RowKit
open Go.Proofs.Ythbgjjfhgbkbdaa.memC Go.Proofs.Ythbgjjfhgbkbdaa.genC Go.Proofs.Ythbgjjfhgbkbdaa.aesM Go.Proofs.Ythbgjjfhgbkbdaa.butC Go.Proofs.Ythbgjjfhgbkbdaa.freeC Go.Proofs.Ythbgjjfhgbkbdaa.partsC
set_option linter.unusedVariables false
/-- rows of other types stand -/
def Keeps (e : TypeId) (w w' : World) : Prop := ∀ (g : Nat) (T : TypeId) (cs : Array Value) (f : Nat × Nat), T ≠ e → w.heap[g]? = some (.cells cs T f) → w'.heap[g]? = some (.cells cs T f)
theorem Keeps.refl (e : TypeId) (w : World) : Keeps e w w := fun _ _ _ _ _ h => h
theorem Keeps.trans {e : TypeId} {a b c : World} (h : Keeps e a b) (h' : Keeps e b c) : Keeps e a c := fun g T cs f ht hg => h' g T cs f ht (h g T cs f ht hg)
theorem Keeps.bl {e T : TypeId} {a b : World} {g : Nat} {xs : List Nat} (h : Keeps e a b) (hb : Bl T a g xs) (ht : T ≠ e) : Bl T b g xs := ⟨h g T _ _ ht hb.row⟩
theorem Keeps.of_below {e : TypeId} {a b : World} (h : Below a.heap.size a b) : Keeps e a b := fun g T cs f _ hg => by rw [h.block g (row_lt2 hg)]; exact hg
theorem own_row_type {k : IntKind} {e : TypeId} {w : World} {base : Nat} {v : Value} {xs : List Int} (h : Own k e w base v xs) {g : Nat} (hg : v.ownBlock = some g) : ∃ cur, w.heap[g]? = some (.cells cur e (0, 0)) := by
  rcases h.2 with ⟨rfl, _⟩ | ⟨g', cap, cur, rfl, hb, hh, _⟩
  · cases hg
  · obtain rfl : g' = g := by simpa [Value.ownBlock] using hg
    exact ⟨cur, hh⟩
theorem own_keeps {k : IntKind} {e : TypeId} {w w' : World} {base : Nat} {v : Value} {xs : List Int} (h : Own k e w base v xs) (hg : w.grownBy w' v.ownBlock) : Keeps e w w' := by
  intro g T cs f ht hr
  rw [hg.block g (row_lt2 hr) fun e2 => ?_]
  · exact hr
  · obtain ⟨cur, hc⟩ := own_row_type h e2.symm
    rw [hr] at hc
    cases hc
    exact ht rfl
theorem own_row_other {k : IntKind} {e T : TypeId} {w : World} {base g : Nat} {v : Value} {xs : List Int} {cs : Array Value} {f : Nat × Nat} (h : Own k e w base v xs) (hg : w.heap[g]? = some (.cells cs T f)) (ht : T ≠ e) (cs' : Array Value) : Own k e (w.setRow g cs') base v xs := by
  refine ⟨h.1, ?_⟩
  rcases h.2 with h0 | ⟨g', cap, cur, rfl, hb, hh, h'⟩
  · exact .inl h0
  · refine .inr ⟨g', cap, cur, rfl, hb, ?_, h'⟩
    have hne : g' ≠ g := fun e2 => by
      subst e2
      rw [hg] at hh
      cases hh
      exact ht rfl
    rw [setRow_other _ _ _ _ hne]; exact hh
/-- append(own, x); rows of other types stand -/
theorem wpList_app1K {P : Program} {ops : Array Oper} {rest : List Oper} {o : Oper} {a : Act} {Q : Exit → Act → World → Prop} {k : IntKind} (w : World) (hgd : o.guard = none) (s x : Operand) (t : TypeId)
    (ho : o.op = .call { callee := .builtin .append, args := #[s, x], argTypes := #[t, t] })
    (e : TypeId) (i : TypeInfo) (z : Value) (bytes : Nat) (ht : P.underlying t = some (.slice e)) (hi : P.info? e = some i) (hz : i.zero = some z)
    (hsize : i.size = 1) (hby : i.bytes = bytes) (hzs : z.cells.size = 1) (base : Nat) (v : Value) (xs : List Int) (hs : a.eval s = v) (hown : Own k e w base v xs)
    (y : Int) (hx : a.eval x = .slice (some ⟨w.heap.size, 0, none⟩) 1 1) (h63 : xs.length + 1 ≤ maxLen) (hbytes : (xs.length + 1) * bytes ≤ 140737488355328) (hbase : base ≤ w.heap.size) (L : Nat) (hL : xs.length + 1 = L)
    (h : ∀ A' c' w', L ≤ c' → c' ≤ maxLen → Own k e w' base (.slice A' L c') (xs ++ [y]) → Below base w w' → Keeps e w w' → wpList P ops Q rest (a.put o.dst (.slice A' L c')) w') : wpList P ops Q (o :: rest) a (w.alloc (.cells #[.int k y] e)) := by
  have hsz : (w.alloc (.cells #[.int k y] e)).heap.size = w.heap.size + 1 := by simp
  refine wpList_app (w.alloc (.cells #[.int k y] e)) hgd s x t ho e i z bytes ht hi hz hsize hby hzs base v xs hs (hown.alloc _) (w.heap.size + 1) _ 1 1 [y] hx ?_ h63 hbytes (by omega) fun v' w' h1 h2 => ?_
  · refine ⟨rfl, fun _ => ⟨w.heap.size, 0, rfl, by omega, fun i hi => ?_⟩⟩
    obtain rfl : i = 0 := by omega
    simp [go_sem]
  · have e : (xs ++ [y]).length = L := by rw [List.length_append]; exact hL
    obtain ⟨A', c', e2, g1, g2, N⟩ := h1.form
    rw [e] at e2 g1 N
    subst e2
    exact h A' c' w' g1 g2 h1 (((Below.refl _ _).alloc hbase _).grown h2 (by omega) fun g hg => (hown.blk g hg).1) ((Keeps.of_below (alloc_below _ _)).trans (own_keeps (hown.alloc _) h2))
/-- bytes that are put behind, while it goes on -/
def PadR (base : Nat) (W : World) (T : List Int) (v : Value) (wr : World) : Prop :=
  ∃ A c L, v = .slice A L c ∧ T.length = L ∧ L ≤ c ∧ c ≤ maxLen ∧ Own .u8 5 wr base (.slice A L c) T ∧ Below base W wr ∧ Keeps 5 W wr
theorem pad_snoc (bs : List Int) (j : Nat) : (bs ++ 128 :: List.replicate j 0) ++ [0] = bs ++ 128 :: List.replicate (j + 1) 0 := by
  rw [List.append_assoc, List.cons_append, ← List.replicate_succ']
theorem nats_pad (bs : List Int) (j : Nat) : nats (bs ++ 128 :: List.replicate j 0) = (nats bs ++ [128]) ++ zs j := by
  rw [nats_app, List.append_assoc]
  congr 1
  unfold nats zs
  rw [List.map_cons, List.map_replicate]; rfl
/-- the block behind j of them, of N + 1 -/
def zR (k T LB : List Nat) (N j : Nat) : List Nat := if j ≤ N then cbc k T j else encL k (xorL (xorL (cbc k T N) (blkL T N)) LB)
theorem zR_len (k T LB : List Nat) (N j : Nat) : (zR k T LB N j).length = 16 := by
  unfold zR; split
  · exact cbc_len _ _ _
  · exact encL_len _ _
theorem zR_by {k : List Nat} (hk : BY k) (hl : k.length = 16) (T LB : List Nat) (N j : Nat) : BY (zR k T LB N j) := by
  unfold zR; split
  · exact cbc_by hk hl _ _
  · exact encL_by hk hl _
theorem mac_pad {k : List Nat} {bs : List Int} {N q j : Nat} (h : bs.length = 16 * N + q) (hq : q < 16) (h0 : q = 0 → N = 0) :
    macL k (nats bs) = encL k (xorL (xorL (cbc k (nats (bs ++ 128 :: List.replicate j 0)) N) (blkL (nats (bs ++ 128 :: List.replicate j 0)) N)) (twoL k)) := by
  rw [macL_part (k := k) (bs := nats bs) (n := N) (by rw [nats_len]; exact h) hq h0, xorL_assoc, nats_pad, blkL_zs, List.append_assoc, cbc_app k (nats bs) _ (by rw [nats_len]; omega)]
theorem mac_whole {k : List Nat} {bs : List Int} {N : Nat} (h : bs.length = 16 * N + 16) :
    macL k (nats bs) = encL k (xorL (xorL (cbc k (nats bs) N) (blkL (nats bs) N)) (oneL k)) := by
  rw [macL_whole (k := k) (bs := nats bs) (n := N) (by rw [nats_len]; exact h), xorL_assoc]
/-- the block that is turned, and that nothing below it turned -/
structure XF (V : World) (x : List Nat) (wr : World) : Prop where
  b9 : Bl 32 wr V.heap.size x
  bel : Below V.heap.size V wr
section
variable {V wr w' : World} {x y : List Nat}
theorem XF.heap (h : XF V x wr) (e : w'.heap = wr.heap) (e1 : w'.os = wr.os) (e2 : w'.tape = wr.tape) (e3 : w'.output = wr.output) : XF V x w' :=
  ⟨h.b9.heap e, h.bel.trans ⟨e1, e2, e3, by rw [e]; exact Nat.le_refl _, fun k _ => by rw [e]⟩⟩
theorem XF.below (h : XF V x wr) (b : Below wr.heap.size wr w') : XF V x w' := ⟨h.b9.below b h.b9.lt, h.bel.trans (b.mono h.bel.size)⟩
theorem XF.set (h : XF V x wr) (j u : Nat) : XF V (x.set j u) (wr.setCell ⟨V.heap.size, j, none⟩ (.int .u8 (u : Int))) := ⟨h.b9.stored j u, h.bel.setCell (p := ⟨V.heap.size, j, none⟩) (Nat.le_refl _) _⟩
theorem XF.put (h : XF V x wr) : XF V y (wr.setRow V.heap.size (vec y)) := ⟨h.b9.setRow, below_setRow h.bel (Nat.le_refl _) _⟩
end
set_option maxRecDepth 100000 in
set_option maxHeartbeats 2000000 in
theorem rof_any (A : Option Addr) (n c : Nat) (bs : List Int) (k : List Nat) (w : World) (hb : Nums .u8 w w.heap.size A n bs) (hy : ∀ x ∈ bs, Byte x) (hn : n ≤ 10000) (hk : k.length = 16) (yk : BY k) :
    Calls Try.prog 27 #[.agg (vec k), .slice A n c] w (Ret w (.agg (vec (macL k (nats bs))))) := by
  obtain ⟨i0, hi0, hz0, hz1, hz2⟩ := info_parts byte_inf
  have T1 := Lib.hid hi0; have T2 := Lib.hid hz0; have T3 := Lib.hid hz1; have T4 := Lib.hid hz2
  obtain ⟨X, hX⟩ : ∃ X, X = vec k := ⟨_, rfl⟩
  obtain ⟨Z, hZ⟩ : ∃ Z, Z = vec (zs 16) := ⟨_, rfl⟩
  obtain ⟨O, hO⟩ : ∃ O, O = vec (oneL k) := ⟨_, rfl⟩
  obtain ⟨T, hT⟩ : ∃ T, T = vec (twoL k) := ⟨_, rfl⟩
  obtain ⟨MM, hMM⟩ : ∃ MM, MM = macL k (nats bs) := ⟨_, rfl⟩
  obtain ⟨VM, hVM⟩ : ∃ V, V = vec MM := ⟨_, rfl⟩
  have LMM := Lib.hid (show MM.length = 16 by rw [hMM]; exact macL_len _ _)
  have HMM := Lib.hid hMM
  have hzv := zero16
  rw [← hZ] at hzv
  have HBn := Lib.hid hb
  have HBL := Lib.hid hb.len
  have HBY := Lib.hid hy
  have HK := Lib.hid hk
  have YK := Lib.hid yk
  have CB := Lib.hid (fun w => rblocks_any k w hk yk)
  rw [← hX, ← hO, ← hT] at CB
  have UX := Lib.hid (show (Try.prog.info? 32).map (·.size) = some X.size by rw [hX]; exact vec_info hk)
  have UO := Lib.hid (show (Try.prog.info? 32).map (·.size) = some O.size by rw [hO]; exact vec_info (oneL_len _))
  have UT := Lib.hid (show (Try.prog.info? 32).map (·.size) = some T.size by rw [hT]; exact vec_info (twoL_len _))
  have OO := Lib.hid (show O.all (·.oneCell') = true by rw [hO]; exact vec_one _)
  have OT := Lib.hid (show T.all (·.oneCell') = true by rw [hT]; exact vec_one _)
  have ZO := Lib.hid (show Z.size = O.size by rw [hZ, hO, vec_size, vec_size, zs_len, oneL_len])
  have ZT := Lib.hid (show Z.size = T.size by rw [hZ, hT, vec_size, vec_size, zs_len, twoL_len])
  have OTS := Lib.hid (show O.size = T.size by rw [hO, hT, vec_size, vec_size, oneL_len, twoL_len])
  have HO := Lib.hid hO
  have HT := Lib.hid hT
  have HX := Lib.hid hX
  have HZ := Lib.hid hZ
  have HVM := Lib.hid hVM
  have e1 : (w.alloc (.cells X 32)).heap.size = w.heap.size + 1 := alloc_size _ _
  obtain ⟨W, hW⟩ : ∃ W, W = (w.alloc (.cells X 32)).alloc (.cells Z 32) := ⟨_, rfl⟩
  have K0 := Lib.hid (show Bl 32 W w.heap.size k by rw [hW, hX]; exact (Bl.new w _ k).alloc _)
  have OU := Lib.hid (show Bl 32 W (w.heap.size + 1) (zs 16) by rw [hW, hZ, ← e1]; exact Bl.new _ _ _)
  have BW := Lib.hid (show Below w.heap.size w W by rw [hW]; exact ((Below.refl _ _).alloc (Nat.le_refl _) _).alloc (by simp) _)
  have R0 := Lib.hid (hX ▸ K0.out.row : W.heap[w.heap.size]? = some (.cells X 32 (0, 0)))
  rw [← hX, ← hMM, ← hVM]
  clear hX hZ hO hT hVM hMM e1 hk yk hb hy hi0 hz0 hz1 hz2
  go_enter Try.func27, Try.ntmps27
  go_upto_region 1 with fail
  rw [← hW]
  clear hW
  go_upto_region 2 with (first
    | (refine wpList_load_row rfl 32 (.tmp 2) rfl w.heap.size rfl _ _ _ _ R0.out Try.underlying32 rfl UX.out ?_)
    | (go_at_call 46; (with_reducible refine (CB.out _).mono ?_); rintro e w5 ⟨rfl, B5⟩
       have r8 : ((w5.alloc (.cells Z 32)).alloc (.cells Z 32)).heap[w5.heap.size]? = some (.cells Z 32 (0, 0)) := by
         rw [Below.block (alloc_below _ _) _ (by rw [alloc_size]; omega)]; exact heap_alloc_new _ _
       have r9 : (((w5.alloc (.cells Z 32)).alloc (.cells Z 32)).setRow w5.heap.size O).heap[w5.heap.size + 1]? = some (.cells Z 32 (0, 0)) := by
         rw [setRow_other _ _ _ _ (by omega), ← alloc_size w5 (.cells Z 32)]; exact heap_alloc_new _ _
       have R8 := Lib.hid r8
       have R9 := Lib.hid r9
       have s7 : (((w5.alloc (.cells Z 32)).alloc (.cells Z 32)).setRow w5.heap.size O).heap.size = w5.heap.size + 1 + 1 := by simp
       have b7 : Below w5.heap.size w5 (((w5.alloc (.cells Z 32)).alloc (.cells Z 32)).setRow w5.heap.size O) := below_setRow (((Below.refl _ _).alloc (Nat.le_refl _) _).alloc (by simp) _) (Nat.le_refl _) _
       have S7 := Lib.hid s7
       have B7 := Lib.hid b7
       have Q8 := Lib.hid (setRow_heap _ _ _ O _ _ r8)
       clear r8 r9 s7 b7)
    | (refine wpList_store_row rfl 32 (.tmp 5) (.tmp 15) rfl w5.heap.size _ rfl rfl _ _ R8.out UO.out ZO.out OO.out ?_)
    | (refine wpList_store_row rfl 32 (.tmp 6) (.tmp 16) rfl (w5.heap.size + 1) _ rfl rfl _ _ R9.out UT.out ZT.out OT.out ?_))
  have Q9 := Lib.hid (setRow_heap _ _ _ T _ _ R9.out)
  have Q82 := Lib.hid (show ((((w5.alloc (.cells Z 32)).alloc (.cells Z 32)).setRow w5.heap.size O).setRow (w5.heap.size + 1) T).heap[w5.heap.size]? = some (.cells O 32 (0, 0)) by
    rw [setRow_other _ _ _ _ (by omega)]; exact Q8.out)
  have S72 := Lib.hid (show ((((w5.alloc (.cells Z 32)).alloc (.cells Z 32)).setRow w5.heap.size O).setRow (w5.heap.size + 1) T).heap.size = w5.heap.size + 1 + 1 by rw [← S7.out]; simp)
  have B72 := Lib.hid (below_setRow (k := w5.heap.size + 1) B7.out (by omega) T)
  clear R8 R9 Q8 S7 B7 R0
  generalize (((w5.alloc (.cells Z 32)).alloc (.cells Z 32)).setRow w5.heap.size O).setRow (w5.heap.size + 1) T = w7 at *
  have b57 : Below W.heap.size W w7 := B5.trans (B72.out.mono B5.size)
  have K7 := Lib.hid (K0.out.below b57 K0.out.lt)
  have OU7 := Lib.hid (OU.out.below b57 OU.out.lt)
  have BW7 := Lib.hid (BW.out.trans (b57.mono BW.out.size))
  have NW := Lib.hid (HBn.out.below BW7.out)
  generalize w5.heap.size + 1 = g6 at *
  generalize w5.heap.size = g5 at *
  clear b57 B5 K0 OU BW S72 B72 HBn CB
  go_upto_region 3 with (first
    | (at_builtin; (refine wpList_appT _ rfl (.const (.slice none 0 0)) (.tmp 17) _ rfl 5 i0 _ 1 Try.underlying22 T1.out T2.out T3.out T4.out rfl w7.heap.size _ [] rfl (Own.nil _ _) w.heap.size A n c bs rfl NW.out (by simp only [maxLen, List.length_nil]; omega) (by simp only [List.length_nil]; omega) (Nat.le_refl _) n (by simp) ?_)
       intro A2 c2 w2 g2 g2' O2 B2
       have O2 : Own .u8 5 w2 w7.heap.size (.slice A2 n c2) bs := O2))
  have HO2 := Lib.hid O2
  have HB2 := Lib.hid B2
  have Q52 := Lib.hid ((B2.block _ (row_lt2 Q82.out)).trans Q82.out)
  have Q62 := Lib.hid ((B2.block _ (row_lt2 Q9.out)).trans Q9.out)
  clear O2 B2 NW Q82 Q9
  go_upto_region 4 with (first
    | (refine wpList_load_row rfl 32 (.tmp 5) rfl g5 rfl _ _ _ _ Q52.out Try.underlying32 rfl UO.out ?_)
    | (refine wpList_store_row rfl 32 (.tmp 8) (.tmp 19) rfl w2.heap.size _ rfl rfl _ _ (heap_alloc_new _ _) UO.out ZO.out OO.out ?_))
  rw [World.setRow_alloc_new]
  have O3 := Lib.hid (HO2.out.alloc (.cells O 32))
  have B3' := Lib.hid (HB2.out.alloc HB2.out.size (.cells O 32))
  have b3 := Lib.hid (show Bl 32 (w2.alloc (.cells O 32)) w2.heap.size (oneL k) by rw [HO.out]; exact Bl.new _ _ _)
  have Q63 := Lib.hid (show (w2.alloc (.cells O 32)).heap[g6]? = some (.cells T 32 (0, 0)) by rw [Below.block (alloc_below _ _) _ (row_lt2 Q62.out)]; exact Q62.out)
  have LG7 := Lib.hid (show w.heap.size + 1 < w2.heap.size by have := OU7.out.lt; have := HB2.out.size; omega)
  have BW7s := Lib.hid (show w.heap.size ≤ w7.heap.size from BW7.out.size)
  generalize w2.alloc (.cells O 32) = w3 at *
  generalize w2.heap.size = g8 at *
  have K3 := Lib.hid (K7.out.below B3'.out K7.out.lt)
  have OU3 := Lib.hid (OU7.out.below B3'.out OU7.out.lt)
  have BW3 := Lib.hid (BW7.out.trans (B3'.out.mono BW7.out.size))
  have LG8 := Lib.hid (show w.heap.size + 1 < g8 from LG7.out)
  have hc2 : c2 ≤ 9223372036854775807 := by simpa [maxLen] using g2'
  have S37 := Lib.hid B3'.out.size
  clear HO2 HB2 Q52 Q62 K7 OU7 BW7 B3' LG7
  by_cases hw : n % 16 = 0 ∧ 0 < n
  · obtain ⟨hn16, hn0⟩ := hw
    obtain ⟨N, hN⟩ : ∃ N, N = n / 16 - 1 := ⟨_, rfl⟩
    have LN := Lib.hid (show n = 16 * N + 16 by omega)
    have LN2 := Lib.hid hn
    have z1 : (n : Int) % 16 = 0 := by omega
    have z2 : ¬ ((n : Int) = 0) := by omega
    have z3 : ((n : Int) == 0) = false := by simp; omega
    have NU := Lib.hid O3.out.nums
    have TB := HBY
    have MQ := Lib.hid (HMM.out.trans <| mac_whole (k := k) (bs := bs) (N := N) (by rw [HBL.out, LN.out]))
    have B8V := b3
    have YLB := Lib.hid (oneL_by YK.out HK.out)
    have LLB := Lib.hid (oneL_len k)
    obtain ⟨LB, hLB⟩ : ∃ B, B = oneL k := ⟨_, rfl⟩
    rw [← hLB] at MQ B8V YLB LLB
    have KV := K3
    have OUV := OU3
    have BWV := BW3
    clear hn16 hn0 hN hLB b3 K3 OU3 BW3 Q63 O3
    go_upto_region 9 with fail
    clear z1 z2 z3
    have hTN := TB.out
    obtain ⟨b, o, rfl, hbb, hcell⟩ := NU.out.at_ (show 0 < n by have := LN.out; omega)
    have CELL := Lib.hid (show ∀ w', Below w3.heap.size w3 w' → ∀ i, i < n → w'.cell? ⟨b, o + i, none⟩ = some (.int .u8 ((((nats bs).getD i 0 : Nat)) : Int)) from fun w' h i hi => by
      rw [h.cell (p := ⟨b, o + i, none⟩) hbb, hcell i hi, nats_at TB.out])
    have YT := Lib.hid (nats_by TB.out)
    obtain ⟨TN, hTNe⟩ : ∃ TN, TN = nats bs := ⟨_, rfl⟩
    rw [← hTNe] at CELL YT MQ
    clear hbb hcell hTN hTNe
    go_upto_region 10 with fail
    have X0 := Lib.hid (show XF w3 (zR k TN LB N 0) (w3.alloc (.cells Z 32)) from ⟨by
      have e : zR k TN LB N 0 = zs 16 := by unfold zR; rw [if_pos (Nat.zero_le _)]; rfl
      rw [e, HZ.out]; exact Bl.new _ _ _, alloc_below _ _⟩)
    generalize w3.alloc (.cells Z 32) = v9 at *
    clear hzv
    go_wp2_with fail
    go_loopw [10] (fun i wr => ∃ j a : Nat, j ≤ N + 1 ∧ Hid (a = 16 * j) ∧ i = .int .i64 (a : Int) ∧ XF w3 (zR k TN LB N j) wr) (fun i _ => n - (intOf i).toNat)
    case atStart => exact ⟨0, 0, by omega, Lib.hid rfl, rfl, X0.out⟩
    case round =>
      obtain ⟨j, a, hj, ha, rfl, XX⟩ := hrel
      have HXX := Lib.hid XX
      clear XX
      by_cases hlt : j ≤ N
      · have haL : (a : Int) < (n : Int) := by have := ha.out; have := LN.out; omega
        have haL2 : (a : Int) + 16 ≤ (n : Int) := by have := ha.out; have := LN.out; omega
        have eX : zR k TN LB N j = cbc k TN j := by unfold zR; rw [if_pos hlt]
        have HEX := Lib.hid eX
        have H13 : Hid (XF w3 (cbc k TN j) wr) := Lib.hid (by rw [← HEX.out]; exact HXX.out)
        have LX := Lib.hid (cbc_len k TN j)
        have YX := Lib.hid (cbc_by YK.out HK.out TN j)
        clear eX HXX
        by_cases hlast : j = N
        · have hEq : (a : Int) + 16 = (n : Int) := by have := ha.out; have := LN.out; omega
          obtain ⟨Y, hY⟩ : ∃ Y, Y = xorL (xorL (cbc k TN j) (blkL TN j)) LB := ⟨_, rfl⟩
          have HY := Lib.hid hY
          have LY := Lib.hid (show Y.length = 16 by rw [hY]; exact xorL_len _ _)
          have YY := Lib.hid (show BY Y by rw [hY]; exact xorL_by (xorL_by YX.out (blkL_by YT.out j)) YLB.out)
          have HEN := Lib.hid (show encL k Y = zR k TN LB N (j + 1) by rw [hY, hlast]; unfold zR; rw [if_neg (by omega)])
          clear hY
          have hab : (a : Int) ≤ 20000 := by have := LN2.out; omega
          have HAL := Lib.hid haL
          have HEQ := Lib.hid hEq
          clear haL2 hEq
          go_upto_region 13 with fail
          clear haL
          go_wp2_with fail
          go_loopw [11] (fun i wx => ∃ r : Nat, r ≤ 16 ∧ i = .int .i64 (r : Int) ∧ XF w3 (mixP Y (cbc k TN j) r) wx) (fun i _ => 16 - (intOf i).toNat)
          case atStart => exact ⟨0, by omega, rfl, by rw [mixP_zero]; exact H13.out⟩
          case round =>
            obtain ⟨r, hr, rfl, XX⟩ := hrel
            have HR := Lib.hid XX
            clear XX
            have hlen : Y.length = (cbc k TN j).length := by rw [LY.out, LX.out]
            have HLE := Lib.hid hlen
            clear hlen
            by_cases hr16 : r < 16
            · have hrz : (r : Int) < 16 := by omega
              obtain ⟨p, hp⟩ : ∃ p, p = a + r := ⟨_, rfl⟩
              have hpz : (a : Int) + (r : Int) = (p : Int) := by omega
              have hpL : (p : Int) < (n : Int) := by have := HAL.out; have := ha.out; have := LN.out; omega
              have hpb : (p : Int) ≤ 20000 := by have := LN2.out; omega
              have hpw : IntKind.i64.wrap (p : Int) = (p : Int) := IntWalk.i64_in _ (by omega)
              have c0 := HR.out.b9.cell (j := r) (by rw [mixP_len HLE.out, LX.out]; exact hr16)
              rw [mixP_old HLE.out (Nat.le_refl _)] at c0
              have c1 := CELL.out _ HR.out.bel p (by omega)
              have f0 := HR.out.b9.frozen r
              obtain ⟨x, hx⟩ : ∃ x, x = (cbc k TN j).getD r 0 := ⟨_, rfl⟩
              obtain ⟨y, hy⟩ : ∃ y, y = TN.getD p 0 := ⟨_, rfl⟩
              have x2 : x < 256 := by rw [hx]; exact YX.out.at r
              have y2 : y < 256 := by rw [hy]; exact YT.out.at p
              rw [← hx] at c0
              rw [← hy] at c1
              obtain ⟨u, hu⟩ : ∃ u, u = x ^^^ y := ⟨_, rfl⟩
              have hxy : bits .xor .u8 (x : Int) (y : Int) = (u : Int) := by rw [hu]; exact xor_b x2 y2
              have HU := Lib.hid (show u = (xorL (cbc k TN j) (blkL TN j)).getD r 0 by rw [xorL_at hr16, blkL_at hr16, hu, hx, hy, hp, ha.out])
              have hst := Lib.hid (HR.out.set r u)
              have UU := Lib.hid (show u < 256 by rw [hu]; exact xor_lt x2 y2)
              clear hp hx hy hu x2 y2
              go_upto_region 16 with fail
              go_still_tail 11, (by kernel_rfl)
              change wpList _ _ _ _ _ wr.drew
              go_upto_region 17 with fail
              change Code.wp _ _ _ _ (wr.drew.setCell ⟨w3.heap.size, r, none⟩ (.int .u8 (u : Int)))
              have H16 := Lib.hid (hst.out.heap (w' := wr.drew.setCell ⟨w3.heap.size, r, none⟩ (.int .u8 (u : Int))) rfl rfl rfl rfl)
              clear c0 c1 f0 hxy hst
              generalize wr.drew.setCell ⟨w3.heap.size, r, none⟩ (.int .u8 (u : Int)) = w17 at *
              have hEq := HEQ.out
              have c0 := H16.out.b9.cell (j := r) (by rw [List.length_set, mixP_len HLE.out, LX.out]; exact hr16)
              rw [List.getD_eq_getElem?_getD, List.getElem?_set_self (by rw [mixP_len HLE.out, LX.out]; exact hr16)] at c0
              change w17.cell? ⟨w3.heap.size, r, none⟩ = some (.int .u8 (u : Int)) at c0
              have c1 := (B8V.out.below H16.out.bel B8V.out.lt).cell (j := r) (by rw [LLB.out]; exact hr16)
              have f0 := H16.out.b9.frozen r
              have hl2 := YLB.out.at r
              obtain ⟨l, hl⟩ : ∃ l, l = LB.getD r 0 := ⟨_, rfl⟩
              rw [← hl] at c1 hl2
              obtain ⟨v, hv⟩ : ∃ v, v = u ^^^ l := ⟨_, rfl⟩
              have hul : bits .xor .u8 (u : Int) (l : Int) = (v : Int) := by rw [hv]; exact xor_b UU.out hl2
              have hst := H16.out.set r v
              rw [List.set_set, show v = Y.getD r 0 by rw [HY.out, xorL_at hr16, ← HU.out, ← hl, hv], mixP_set HLE.out (by rw [LX.out]; exact hr16)] at hst
              rw [show Y.getD r 0 = v by rw [HY.out, xorL_at hr16, ← HU.out, ← hl, hv]] at hst
              have HS := Lib.hid hst
              clear hst hv hl H16 HU hl2 hpz hpw
              go_upto_region 18 with fail
              clear hEq
              go_still_tail 8, (by kernel_rfl)
              change wpList _ _ _ _ _ w17.drew
              go_wp2_with fail
              go_roundw
              case rel => exact ⟨r + 1, by omega, by go_num, HS.out.heap rfl rfl rfl rfl⟩
              case measure => simp [intOf]; omega
            · have e : r = 16 := by omega
              subst e
              have hf : mixP Y (cbc k TN j) 16 = Y := by have := mixP_full HLE.out; rwa [LX.out] at this
              have XY := HR.out
              rw [hf] at XY
              have HXY := Lib.hid XY
              obtain ⟨VY, hVY⟩ : ∃ V, V = vec Y := ⟨_, rfl⟩
              obtain ⟨VE, hVE⟩ : ∃ V, V = vec (encL k Y) := ⟨_, rfl⟩
              have HVE := Lib.hid hVE
              have RY := Lib.hid (hVY ▸ XY.b9.row : wr.heap[w3.heap.size]? = some (.cells VY 32 (0, 0)))
              have RK := Lib.hid (HX.out ▸ (KV.out.below XY.bel KV.out.lt).row : wr.heap[w.heap.size]? = some (.cells X 32 (0, 0)))
              have EN := Lib.hid (fun w => refencrypt_any k Y w HK.out YK.out LY.out YY.out)
              rw [← HX.out, ← hVY, ← hVE] at EN
              have UY := Lib.hid (show (Try.prog.info? 32).map (·.size) = some VY.size by rw [hVY]; exact vec_info LY.out)
              have UE := Lib.hid (show (Try.prog.info? 32).map (·.size) = some VE.size by rw [hVE]; exact vec_info (encL_len _ _))
              have ZE := Lib.hid (show VY.size = VE.size by rw [hVY, hVE, vec_size, vec_size, LY.out, encL_len])
              have OE := Lib.hid (show VE.all (·.oneCell') = true by rw [hVE]; exact vec_one _)
              have hVY2 := Lib.hid hVY
              clear hf XY HR hVY hVE hr16 hr
              go_wp2_with (first
                | (refine wpList_load_row rfl 32 (.tmp 2) rfl w.heap.size rfl _ _ _ _ RK.out Try.underlying32 rfl UX.out ?_)
                | (refine wpList_load_row rfl 32 (.tmp 9) rfl w3.heap.size rfl _ _ _ _ RY.out Try.underlying32 rfl UY.out ?_)
                | (go_at_call 47; (with_reducible refine (EN.out _).mono ?_); rintro e w18 ⟨rfl, B18⟩
                   have H18 := Lib.hid (HXY.out.below B18)
                   have R18 := Lib.hid (hVY2.out ▸ H18.out.b9.row : w18.heap[w3.heap.size]? = some (.cells VY 32 (0, 0)))
                   have H19 := Lib.hid (H18.out.put (y := encL k Y))
                   rw [← HVE.out, HEN.out] at H19
                   clear B18 H18)
                | (refine wpList_store_row rfl 32 (.tmp 9) (.tmp 76) rfl w3.heap.size _ rfl rfl _ _ R18.out UE.out ZE.out OE.out ?_))
              clear R18
              go_roundw
              case rel => exact ⟨j + 1, a + 16, by omega, Lib.hid (by rw [ha.out]; omega), by go_num, H19.out⟩
              case measure => simp [intOf]; have := ha.out; have := LN.out; omega
        · have hEq : ¬ ((a : Int) + 16 = (n : Int)) := by have := ha.out; have := LN.out; omega
          obtain ⟨Y, hY⟩ : ∃ Y, Y = xorL (cbc k TN j) (blkL TN j) := ⟨_, rfl⟩
          have HY := Lib.hid hY
          have LY := Lib.hid (show Y.length = 16 by rw [hY]; exact xorL_len _ _)
          have YY := Lib.hid (show BY Y by rw [hY]; exact xorL_by YX.out (blkL_by YT.out j))
          have HEN := Lib.hid (show encL k Y = zR k TN LB N (j + 1) by rw [hY]; unfold zR; rw [if_pos (by omega)]; rfl)
          clear hY
          have hab : (a : Int) ≤ 20000 := by have := LN2.out; omega
          have HAL := Lib.hid haL
          have HEQ := Lib.hid hEq
          clear haL2 hEq
          go_upto_region 13 with fail
          clear haL
          go_wp2_with fail
          go_loopw [11] (fun i wx => ∃ r : Nat, r ≤ 16 ∧ i = .int .i64 (r : Int) ∧ XF w3 (mixP Y (cbc k TN j) r) wx) (fun i _ => 16 - (intOf i).toNat)
          case atStart => exact ⟨0, by omega, rfl, by rw [mixP_zero]; exact H13.out⟩
          case round =>
            obtain ⟨r, hr, rfl, XX⟩ := hrel
            have HR := Lib.hid XX
            clear XX
            have hlen : Y.length = (cbc k TN j).length := by rw [LY.out, LX.out]
            have HLE := Lib.hid hlen
            clear hlen
            by_cases hr16 : r < 16
            · have hrz : (r : Int) < 16 := by omega
              obtain ⟨p, hp⟩ : ∃ p, p = a + r := ⟨_, rfl⟩
              have hpz : (a : Int) + (r : Int) = (p : Int) := by omega
              have hpL : (p : Int) < (n : Int) := by have := HAL.out; have := ha.out; have := LN.out; omega
              have hpb : (p : Int) ≤ 20000 := by have := LN2.out; omega
              have hpw : IntKind.i64.wrap (p : Int) = (p : Int) := IntWalk.i64_in _ (by omega)
              have c0 := HR.out.b9.cell (j := r) (by rw [mixP_len HLE.out, LX.out]; exact hr16)
              rw [mixP_old HLE.out (Nat.le_refl _)] at c0
              have c1 := CELL.out _ HR.out.bel p (by omega)
              have f0 := HR.out.b9.frozen r
              obtain ⟨x, hx⟩ : ∃ x, x = (cbc k TN j).getD r 0 := ⟨_, rfl⟩
              obtain ⟨y, hy⟩ : ∃ y, y = TN.getD p 0 := ⟨_, rfl⟩
              have x2 : x < 256 := by rw [hx]; exact YX.out.at r
              have y2 : y < 256 := by rw [hy]; exact YT.out.at p
              rw [← hx] at c0
              rw [← hy] at c1
              obtain ⟨u, hu⟩ : ∃ u, u = x ^^^ y := ⟨_, rfl⟩
              have hxy : bits .xor .u8 (x : Int) (y : Int) = (u : Int) := by rw [hu]; exact xor_b x2 y2
              have HU := Lib.hid (show u = (xorL (cbc k TN j) (blkL TN j)).getD r 0 by rw [xorL_at hr16, blkL_at hr16, hu, hx, hy, hp, ha.out])
              have hst := Lib.hid (HR.out.set r u)
              have UU := Lib.hid (show u < 256 by rw [hu]; exact xor_lt x2 y2)
              clear hp hx hy hu x2 y2
              go_upto_region 16 with fail
              go_still_tail 11, (by kernel_rfl)
              change wpList _ _ _ _ _ wr.drew
              go_upto_region 17 with fail
              change Code.wp _ _ _ _ (wr.drew.setCell ⟨w3.heap.size, r, none⟩ (.int .u8 (u : Int)))
              have H16 := Lib.hid (hst.out.heap (w' := wr.drew.setCell ⟨w3.heap.size, r, none⟩ (.int .u8 (u : Int))) rfl rfl rfl rfl)
              clear c0 c1 f0 hxy hst
              generalize wr.drew.setCell ⟨w3.heap.size, r, none⟩ (.int .u8 (u : Int)) = w17 at *
              have hEq := HEQ.out
              have H17 : Hid (XF w3 (mixP Y (cbc k TN j) (r + 1)) w17) := Lib.hid (by
                have h2 := H16.out
                rw [HU.out, ← HY.out, mixP_set HLE.out (by rw [LX.out]; exact hr16)] at h2; exact h2)
              clear H16 HU hpz hpw
              go_wp2_with fail
              clear hEq
              go_roundw
              case rel => exact ⟨r + 1, by omega, by go_num, H17.out⟩
              case measure => simp [intOf]; omega
            · have e : r = 16 := by omega
              subst e
              have hf : mixP Y (cbc k TN j) 16 = Y := by have := mixP_full HLE.out; rwa [LX.out] at this
              have XY := HR.out
              rw [hf] at XY
              have HXY := Lib.hid XY
              obtain ⟨VY, hVY⟩ : ∃ V, V = vec Y := ⟨_, rfl⟩
              obtain ⟨VE, hVE⟩ : ∃ V, V = vec (encL k Y) := ⟨_, rfl⟩
              have HVE := Lib.hid hVE
              have RY := Lib.hid (hVY ▸ XY.b9.row : wr.heap[w3.heap.size]? = some (.cells VY 32 (0, 0)))
              have RK := Lib.hid (HX.out ▸ (KV.out.below XY.bel KV.out.lt).row : wr.heap[w.heap.size]? = some (.cells X 32 (0, 0)))
              have EN := Lib.hid (fun w => refencrypt_any k Y w HK.out YK.out LY.out YY.out)
              rw [← HX.out, ← hVY, ← hVE] at EN
              have UY := Lib.hid (show (Try.prog.info? 32).map (·.size) = some VY.size by rw [hVY]; exact vec_info LY.out)
              have UE := Lib.hid (show (Try.prog.info? 32).map (·.size) = some VE.size by rw [hVE]; exact vec_info (encL_len _ _))
              have ZE := Lib.hid (show VY.size = VE.size by rw [hVY, hVE, vec_size, vec_size, LY.out, encL_len])
              have OE := Lib.hid (show VE.all (·.oneCell') = true by rw [hVE]; exact vec_one _)
              have hVY2 := Lib.hid hVY
              clear hf XY HR hVY hVE hr16 hr
              go_wp2_with (first
                | (refine wpList_load_row rfl 32 (.tmp 2) rfl w.heap.size rfl _ _ _ _ RK.out Try.underlying32 rfl UX.out ?_)
                | (refine wpList_load_row rfl 32 (.tmp 9) rfl w3.heap.size rfl _ _ _ _ RY.out Try.underlying32 rfl UY.out ?_)
                | (go_at_call 47; (with_reducible refine (EN.out _).mono ?_); rintro e w18 ⟨rfl, B18⟩
                   have H18 := Lib.hid (HXY.out.below B18)
                   have R18 := Lib.hid (hVY2.out ▸ H18.out.b9.row : w18.heap[w3.heap.size]? = some (.cells VY 32 (0, 0)))
                   have H19 := Lib.hid (H18.out.put (y := encL k Y))
                   rw [← HVE.out, HEN.out] at H19
                   clear B18 H18)
                | (refine wpList_store_row rfl 32 (.tmp 9) (.tmp 76) rfl w3.heap.size _ rfl rfl _ _ R18.out UE.out ZE.out OE.out ?_))
              clear R18
              go_roundw
              case rel => exact ⟨j + 1, a + 16, by omega, Lib.hid (by rw [ha.out]; omega), by go_num, H19.out⟩
              case measure => simp [intOf]; have := ha.out; have := LN.out; omega
      · have e : j = N + 1 := by omega
        subst e
        have haL : ¬ (a : Int) < (n : Int) := by have := ha.out; have := LN.out; omega
        have eM : zR k TN LB N (N + 1) = MM := by unfold zR; rw [if_neg (by omega)]; exact MQ.out.symm
        have XM : XF w3 MM wr := by rw [← eM]; exact HXX.out
        have R9 := Lib.hid (HVM.out ▸ XM.b9.row : wr.heap[w3.heap.size]? = some (.cells VM 32 (0, 0)))
        have RO := Lib.hid ((OUV.out.below XM.bel OUV.out.lt).row)
        have BQ := Lib.hid (BWV.out.trans (XM.bel.mono BWV.out.size))
        have UM := Lib.hid (show (Try.prog.info? 32).map (·.size) = some VM.size by rw [HVM.out]; exact vec_info LMM.out)
        have ZM := Lib.hid (show (vec (zs 16)).size = VM.size by rw [HVM.out, vec_size, vec_size, LMM.out, zs_len])
        have OM := Lib.hid (show VM.all (·.oneCell') = true by rw [HVM.out]; exact vec_one _)
        clear XM eM HXX
        go_wp2_with (first
          | (refine wpList_load_row rfl 32 (.tmp 9) rfl w3.heap.size rfl _ _ _ _ R9.out Try.underlying32 rfl UM.out ?_)
          | (refine wpList_store_row rfl 32 (.tmp 4) (.tmp 77) rfl (w.heap.size + 1) _ rfl rfl _ _ RO.out UM.out ZM.out OM.out ?_))
        refine bodyPost_ret (v := .agg VM) (results_cell_row Try.results27 _ _ (w.heap.size + 1) _ _ _ _ (by rfl) (setRow_heap _ _ _ _ _ _ RO.out) Try.underlying32 rfl UM.out) rfl ⟨rfl, ?_⟩
        exact below_setRow BQ.out (by omega) _
  · by_cases hn0 : n = 0
    · subst hn0
      have G8 := Lib.hid (show w.heap.size + 1 < g8 from LG8.out)
      have b35 := Lib.hid (show Bl 32 (w3.setRow g8 T) g8 (twoL k) by rw [HT.out]; exact b3.out.setRow)
      have r35 := Lib.hid (HO.out ▸ b3.out.row : w3.heap[g8]? = some (.cells O 32 (0, 0)))
      go_upto_region 6 with (first
        | (refine wpList_load_row rfl 32 (.tmp 6) rfl g6 rfl _ _ _ _ Q63.out Try.underlying32 rfl UT.out ?_)
        | (refine wpList_store_row rfl 32 (.tmp 8) (.tmp 29) rfl g8 _ rfl rfl _ _ r35.out UT.out OTS.out OT.out ?_))
      have O5 := Lib.hid (own_row_other O3.out r35.out (by decide) T)
      have LG := Lib.hid G8.out
      have K5 := Lib.hid (K3.out.row_other (k := g8) (by have := LG.out; omega) T)
      have OU5 := Lib.hid (OU3.out.row_other (k := g8) (by have := LG.out; omega) T)
      have BW5 := Lib.hid (below_setRow BW3.out (k := g8) (by have := LG.out; omega) T)
      have S57 := Lib.hid (show w7.heap.size ≤ (w3.setRow g8 T).heap.size by have := S37.out; simpa using this)
      generalize w3.setRow g8 T = w4 at *

      clear r35 O3 K3 OU3 BW3 b3 Q63
      go_upto_region 7 with (first
        | (at_builtin; (refine wpList_app1K _ rfl (.tmp 30) (.tmp 31) _ rfl 5 i0 _ 1 Try.underlying22 T1.out T2.out T3.out T4.out rfl w7.heap.size _ bs rfl O5.out 128 rfl (by rw [HBL.out]; simp only [maxLen]; omega) (by rw [HBL.out]; omega) S57.out (0 + 1) (by rw [HBL.out]) ?_)
           intro A3 c3 w5 g3 g3' O6 B6 K6
           have P5 := Lib.hid (show PadR w7.heap.size w4 (bs ++ 128 :: List.replicate 0 0) (.slice A3 (0 + 1) c3) w5 from ⟨A3, c3, 0 + 1, rfl, by simp [HBL.out], g3, g3', O6, B6, K6⟩)
           clear O6 B6 K6 g3 g3'))
      clear O5
      go_wp2_with fail
      go_loopw [7] (fun v wr => ∃ j : Nat, j ≤ 15 - 0 % 16 ∧ PadR w7.heap.size w4 (bs ++ 128 :: List.replicate j 0) v wr) (fun v _ => 16 - 0 % 16 + 0 + 1 - lenOf v)
      case atStart => exact ⟨0, Nat.zero_le _, P5.out⟩
      case round =>
        obtain ⟨j, hj, A4, c4, L, rfl, hl, g4, g4', O4, B4, K4⟩ := hrel
        have hL : L = 0 + 1 + j := by rw [← hl]; simp [HBL.out]; omega
        have HLj := Lib.hid hL
        have hL2 : L ≤ 10100 := by omega
        have HTl := Lib.hid hl
        have S4 := Lib.hid (Nat.le_trans S57.out (Below.size B4))
        have HO4 := Lib.hid O4
        have HB4 := Lib.hid B4
        have HK4 := Lib.hid K4
        clear hl hL O4 B4 K4
        by_cases hlt : j < 15 - 0 % 16
        · have e3 : ¬ ((L : Int) % 16 = 0) := by have := HLj.out; omega
          go_wp2_with (first
            | (at_builtin; (refine wpList_app1K _ rfl (.tmp 37) (.tmp 38) _ rfl 5 i0 _ 1 Try.underlying22 T1.out T2.out T3.out T4.out rfl w7.heap.size _ _ rfl HO4.out 0 rfl (by rw [HTl.out]; simp only [maxLen]; omega) (by rw [HTl.out]; omega) S4.out (L + 1) (by rw [HTl.out]) ?_)
               intro A5 c5 w6 g5' g5'' O6 B6 K6
               have P6 := Lib.hid (show PadR w7.heap.size w4 (bs ++ 128 :: List.replicate (j + 1) 0) (.slice A5 (L + 1) c5) w6 by
                 rw [pad_snoc] at O6
                 exact ⟨A5, c5, L + 1, rfl, by rw [← pad_snoc, List.length_append, HTl.out]; rfl, g5', g5'', O6, HB4.out.trans B6, HK4.out.trans K6⟩)
               clear O6 B6 K6 g5' g5''))
          clear e3
          go_roundw
          case rel => exact ⟨j + 1, by omega, P6.out⟩
          case measure => simp [lenOf]; have := HLj.out; omega
        · have e : j = 15 - 0 % 16 := by omega
          have e1 : (L : Int) % 16 = 0 := by have := HLj.out; omega
          obtain ⟨N, hN⟩ : ∃ N, N = 0 / 16 := ⟨_, rfl⟩
          have LN := Lib.hid (show L = 16 * N + 16 by have := HLj.out; omega)
          have LN2 := Lib.hid (show L ≤ 10100 from hL2)
          have MQ := Lib.hid (HMM.out.trans <| mac_pad (k := k) (bs := bs) (N := N) (q := 0 % 16) (j := j) (by rw [HBL.out]; omega) (by omega) (by omega))
          have NU := Lib.hid HO4.out.nums
          have TB := Lib.hid (show ∀ x ∈ bs ++ 128 :: List.replicate j 0, Byte x by
            intro x hx
            rcases List.mem_append.1 hx with h1 | h1
            · exact HBY.out x h1
            · rcases List.mem_cons.1 h1 with rfl | h1
              · exact ⟨by decide, by decide⟩
              · rw [List.eq_of_mem_replicate h1]; exact ⟨by decide, by decide⟩)
          obtain ⟨TL, hTL⟩ : ∃ TL, TL = bs ++ 128 :: List.replicate j 0 := ⟨_, rfl⟩
          rw [← hTL] at MQ NU TB
          have B8V := Lib.hid (HK4.out.bl b35.out (by decide))
          have YLB := Lib.hid (twoL_by YK.out HK.out)
          have LLB := Lib.hid (twoL_len k)
          obtain ⟨LB, hLB⟩ : ∃ B, B = twoL k := ⟨_, rfl⟩
          rw [← hLB] at MQ B8V YLB LLB
          have KV := Lib.hid (HK4.out.bl K5.out (by decide))
          have OUV := Lib.hid (HK4.out.bl OU5.out (by decide))
          have BWV := Lib.hid (BW5.out.trans (HB4.out.mono (by have := BW7s.out; omega)))
          have hc4 : c4 ≤ 9223372036854775807 := by simpa [maxLen] using g4'
          clear e hlt hN hTL hLB HLj HTl S4 HO4 HB4 HK4 hj
          obtain ⟨V9, hV9⟩ : ∃ V9, V9 = wr := ⟨_, rfl⟩
          subst hV9
          go_upto_region 9 with fail
          clear e1
          have hTN := TB.out
          obtain ⟨b, o, rfl, hbb, hcell⟩ := NU.out.at_ (show 0 < L by have := LN.out; omega)
          have CELL := Lib.hid (show ∀ w', Below V9.heap.size V9 w' → ∀ i, i < L → w'.cell? ⟨b, o + i, none⟩ = some (.int .u8 ((((nats TL).getD i 0 : Nat)) : Int)) from fun w' h i hi => by
            rw [h.cell (p := ⟨b, o + i, none⟩) hbb, hcell i hi, nats_at TB.out])
          have YT := Lib.hid (nats_by TB.out)
          obtain ⟨TN, hTNe⟩ : ∃ TN, TN = nats TL := ⟨_, rfl⟩
          rw [← hTNe] at CELL YT MQ
          clear hbb hcell hTN hTNe
          go_upto_region 10 with fail
          have X0 := Lib.hid (show XF V9 (zR k TN LB N 0) (V9.alloc (.cells Z 32)) from ⟨by
            have e : zR k TN LB N 0 = zs 16 := by unfold zR; rw [if_pos (Nat.zero_le _)]; rfl
            rw [e, HZ.out]; exact Bl.new _ _ _, alloc_below _ _⟩)
          generalize V9.alloc (.cells Z 32) = v9 at *
          clear hzv
          go_wp2_with fail
          go_loopw [10] (fun i wr => ∃ j a : Nat, j ≤ N + 1 ∧ Hid (a = 16 * j) ∧ i = .int .i64 (a : Int) ∧ XF V9 (zR k TN LB N j) wr) (fun i _ => L - (intOf i).toNat)
          case atStart => exact ⟨0, 0, by omega, Lib.hid rfl, rfl, X0.out⟩
          case round =>
            obtain ⟨j, a, hj, ha, rfl, XX⟩ := hrel
            have HXX := Lib.hid XX
            clear XX
            by_cases hlt : j ≤ N
            · have haL : (a : Int) < (L : Int) := by have := ha.out; have := LN.out; omega
              have haL2 : (a : Int) + 16 ≤ (L : Int) := by have := ha.out; have := LN.out; omega
              have eX : zR k TN LB N j = cbc k TN j := by unfold zR; rw [if_pos hlt]
              have HEX := Lib.hid eX
              have H13 : Hid (XF V9 (cbc k TN j) wr) := Lib.hid (by rw [← HEX.out]; exact HXX.out)
              have LX := Lib.hid (cbc_len k TN j)
              have YX := Lib.hid (cbc_by YK.out HK.out TN j)
              clear eX HXX
              by_cases hlast : j = N
              · have hEq : (a : Int) + 16 = (L : Int) := by have := ha.out; have := LN.out; omega
                obtain ⟨Y, hY⟩ : ∃ Y, Y = xorL (xorL (cbc k TN j) (blkL TN j)) LB := ⟨_, rfl⟩
                have HY := Lib.hid hY
                have LY := Lib.hid (show Y.length = 16 by rw [hY]; exact xorL_len _ _)
                have YY := Lib.hid (show BY Y by rw [hY]; exact xorL_by (xorL_by YX.out (blkL_by YT.out j)) YLB.out)
                have HEN := Lib.hid (show encL k Y = zR k TN LB N (j + 1) by rw [hY, hlast]; unfold zR; rw [if_neg (by omega)])
                clear hY
                have hab : (a : Int) ≤ 20000 := by have := LN2.out; omega
                have HAL := Lib.hid haL
                have HEQ := Lib.hid hEq
                clear haL2 hEq
                go_upto_region 13 with fail
                clear haL
                go_wp2_with fail
                go_loopw [11] (fun i wx => ∃ r : Nat, r ≤ 16 ∧ i = .int .i64 (r : Int) ∧ XF V9 (mixP Y (cbc k TN j) r) wx) (fun i _ => 16 - (intOf i).toNat)
                case atStart => exact ⟨0, by omega, rfl, by rw [mixP_zero]; exact H13.out⟩
                case round =>
                  obtain ⟨r, hr, rfl, XX⟩ := hrel
                  have HR := Lib.hid XX
                  clear XX
                  have hlen : Y.length = (cbc k TN j).length := by rw [LY.out, LX.out]
                  have HLE := Lib.hid hlen
                  clear hlen
                  by_cases hr16 : r < 16
                  · have hrz : (r : Int) < 16 := by omega
                    obtain ⟨p, hp⟩ : ∃ p, p = a + r := ⟨_, rfl⟩
                    have hpz : (a : Int) + (r : Int) = (p : Int) := by omega
                    have hpL : (p : Int) < (L : Int) := by have := HAL.out; have := ha.out; have := LN.out; omega
                    have hpb : (p : Int) ≤ 20000 := by have := LN2.out; omega
                    have hpw : IntKind.i64.wrap (p : Int) = (p : Int) := IntWalk.i64_in _ (by omega)
                    have c0 := HR.out.b9.cell (j := r) (by rw [mixP_len HLE.out, LX.out]; exact hr16)
                    rw [mixP_old HLE.out (Nat.le_refl _)] at c0
                    have c1 := CELL.out _ HR.out.bel p (by omega)
                    have f0 := HR.out.b9.frozen r
                    obtain ⟨x, hx⟩ : ∃ x, x = (cbc k TN j).getD r 0 := ⟨_, rfl⟩
                    obtain ⟨y, hy⟩ : ∃ y, y = TN.getD p 0 := ⟨_, rfl⟩
                    have x2 : x < 256 := by rw [hx]; exact YX.out.at r
                    have y2 : y < 256 := by rw [hy]; exact YT.out.at p
                    rw [← hx] at c0
                    rw [← hy] at c1
                    obtain ⟨u, hu⟩ : ∃ u, u = x ^^^ y := ⟨_, rfl⟩
                    have hxy : bits .xor .u8 (x : Int) (y : Int) = (u : Int) := by rw [hu]; exact xor_b x2 y2
                    have HU := Lib.hid (show u = (xorL (cbc k TN j) (blkL TN j)).getD r 0 by rw [xorL_at hr16, blkL_at hr16, hu, hx, hy, hp, ha.out])
                    have hst := Lib.hid (HR.out.set r u)
                    have UU := Lib.hid (show u < 256 by rw [hu]; exact xor_lt x2 y2)
                    clear hp hx hy hu x2 y2
                    go_upto_region 16 with fail
                    go_still_tail 11, (by kernel_rfl)
                    change wpList _ _ _ _ _ wr.drew
                    go_upto_region 17 with fail
                    change Code.wp _ _ _ _ (wr.drew.setCell ⟨V9.heap.size, r, none⟩ (.int .u8 (u : Int)))
                    have H16 := Lib.hid (hst.out.heap (w' := wr.drew.setCell ⟨V9.heap.size, r, none⟩ (.int .u8 (u : Int))) rfl rfl rfl rfl)
                    clear c0 c1 f0 hxy hst
                    generalize wr.drew.setCell ⟨V9.heap.size, r, none⟩ (.int .u8 (u : Int)) = w17 at *
                    have hEq := HEQ.out
                    have c0 := H16.out.b9.cell (j := r) (by rw [List.length_set, mixP_len HLE.out, LX.out]; exact hr16)
                    rw [List.getD_eq_getElem?_getD, List.getElem?_set_self (by rw [mixP_len HLE.out, LX.out]; exact hr16)] at c0
                    change w17.cell? ⟨V9.heap.size, r, none⟩ = some (.int .u8 (u : Int)) at c0
                    have c1 := (B8V.out.below H16.out.bel B8V.out.lt).cell (j := r) (by rw [LLB.out]; exact hr16)
                    have f0 := H16.out.b9.frozen r
                    have hl2 := YLB.out.at r
                    obtain ⟨l, hl⟩ : ∃ l, l = LB.getD r 0 := ⟨_, rfl⟩
                    rw [← hl] at c1 hl2
                    obtain ⟨v, hv⟩ : ∃ v, v = u ^^^ l := ⟨_, rfl⟩
                    have hul : bits .xor .u8 (u : Int) (l : Int) = (v : Int) := by rw [hv]; exact xor_b UU.out hl2
                    have hst := H16.out.set r v
                    rw [List.set_set, show v = Y.getD r 0 by rw [HY.out, xorL_at hr16, ← HU.out, ← hl, hv], mixP_set HLE.out (by rw [LX.out]; exact hr16)] at hst
                    rw [show Y.getD r 0 = v by rw [HY.out, xorL_at hr16, ← HU.out, ← hl, hv]] at hst
                    have HS := Lib.hid hst
                    clear hst hv hl H16 HU hl2 hpz hpw
                    go_upto_region 18 with fail
                    clear hEq
                    go_still_tail 8, (by kernel_rfl)
                    change wpList _ _ _ _ _ w17.drew
                    go_wp2_with fail
                    go_roundw
                    case rel => exact ⟨r + 1, by omega, by go_num, HS.out.heap rfl rfl rfl rfl⟩
                    case measure => simp [intOf]; omega
                  · have e : r = 16 := by omega
                    subst e
                    have hf : mixP Y (cbc k TN j) 16 = Y := by have := mixP_full HLE.out; rwa [LX.out] at this
                    have XY := HR.out
                    rw [hf] at XY
                    have HXY := Lib.hid XY
                    obtain ⟨VY, hVY⟩ : ∃ V, V = vec Y := ⟨_, rfl⟩
                    obtain ⟨VE, hVE⟩ : ∃ V, V = vec (encL k Y) := ⟨_, rfl⟩
                    have HVE := Lib.hid hVE
                    have RY := Lib.hid (hVY ▸ XY.b9.row : wr.heap[V9.heap.size]? = some (.cells VY 32 (0, 0)))
                    have RK := Lib.hid (HX.out ▸ (KV.out.below XY.bel KV.out.lt).row : wr.heap[w.heap.size]? = some (.cells X 32 (0, 0)))
                    have EN := Lib.hid (fun w => refencrypt_any k Y w HK.out YK.out LY.out YY.out)
                    rw [← HX.out, ← hVY, ← hVE] at EN
                    have UY := Lib.hid (show (Try.prog.info? 32).map (·.size) = some VY.size by rw [hVY]; exact vec_info LY.out)
                    have UE := Lib.hid (show (Try.prog.info? 32).map (·.size) = some VE.size by rw [hVE]; exact vec_info (encL_len _ _))
                    have ZE := Lib.hid (show VY.size = VE.size by rw [hVY, hVE, vec_size, vec_size, LY.out, encL_len])
                    have OE := Lib.hid (show VE.all (·.oneCell') = true by rw [hVE]; exact vec_one _)
                    have hVY2 := Lib.hid hVY
                    clear hf XY HR hVY hVE hr16 hr
                    go_wp2_with (first
                      | (refine wpList_load_row rfl 32 (.tmp 2) rfl w.heap.size rfl _ _ _ _ RK.out Try.underlying32 rfl UX.out ?_)
                      | (refine wpList_load_row rfl 32 (.tmp 9) rfl V9.heap.size rfl _ _ _ _ RY.out Try.underlying32 rfl UY.out ?_)
                      | (go_at_call 47; (with_reducible refine (EN.out _).mono ?_); rintro e w18 ⟨rfl, B18⟩
                         have H18 := Lib.hid (HXY.out.below B18)
                         have R18 := Lib.hid (hVY2.out ▸ H18.out.b9.row : w18.heap[V9.heap.size]? = some (.cells VY 32 (0, 0)))
                         have H19 := Lib.hid (H18.out.put (y := encL k Y))
                         rw [← HVE.out, HEN.out] at H19
                         clear B18 H18)
                      | (refine wpList_store_row rfl 32 (.tmp 9) (.tmp 76) rfl V9.heap.size _ rfl rfl _ _ R18.out UE.out ZE.out OE.out ?_))
                    clear R18
                    go_roundw
                    case rel => exact ⟨j + 1, a + 16, by omega, Lib.hid (by rw [ha.out]; omega), by go_num, H19.out⟩
                    case measure => simp [intOf]; have := ha.out; have := LN.out; omega
              · have hEq : ¬ ((a : Int) + 16 = (L : Int)) := by have := ha.out; have := LN.out; omega
                obtain ⟨Y, hY⟩ : ∃ Y, Y = xorL (cbc k TN j) (blkL TN j) := ⟨_, rfl⟩
                have HY := Lib.hid hY
                have LY := Lib.hid (show Y.length = 16 by rw [hY]; exact xorL_len _ _)
                have YY := Lib.hid (show BY Y by rw [hY]; exact xorL_by YX.out (blkL_by YT.out j))
                have HEN := Lib.hid (show encL k Y = zR k TN LB N (j + 1) by rw [hY]; unfold zR; rw [if_pos (by omega)]; rfl)
                clear hY
                have hab : (a : Int) ≤ 20000 := by have := LN2.out; omega
                have HAL := Lib.hid haL
                have HEQ := Lib.hid hEq
                clear haL2 hEq
                go_upto_region 13 with fail
                clear haL
                go_wp2_with fail
                go_loopw [11] (fun i wx => ∃ r : Nat, r ≤ 16 ∧ i = .int .i64 (r : Int) ∧ XF V9 (mixP Y (cbc k TN j) r) wx) (fun i _ => 16 - (intOf i).toNat)
                case atStart => exact ⟨0, by omega, rfl, by rw [mixP_zero]; exact H13.out⟩
                case round =>
                  obtain ⟨r, hr, rfl, XX⟩ := hrel
                  have HR := Lib.hid XX
                  clear XX
                  have hlen : Y.length = (cbc k TN j).length := by rw [LY.out, LX.out]
                  have HLE := Lib.hid hlen
                  clear hlen
                  by_cases hr16 : r < 16
                  · have hrz : (r : Int) < 16 := by omega
                    obtain ⟨p, hp⟩ : ∃ p, p = a + r := ⟨_, rfl⟩
                    have hpz : (a : Int) + (r : Int) = (p : Int) := by omega
                    have hpL : (p : Int) < (L : Int) := by have := HAL.out; have := ha.out; have := LN.out; omega
                    have hpb : (p : Int) ≤ 20000 := by have := LN2.out; omega
                    have hpw : IntKind.i64.wrap (p : Int) = (p : Int) := IntWalk.i64_in _ (by omega)
                    have c0 := HR.out.b9.cell (j := r) (by rw [mixP_len HLE.out, LX.out]; exact hr16)
                    rw [mixP_old HLE.out (Nat.le_refl _)] at c0
                    have c1 := CELL.out _ HR.out.bel p (by omega)
                    have f0 := HR.out.b9.frozen r
                    obtain ⟨x, hx⟩ : ∃ x, x = (cbc k TN j).getD r 0 := ⟨_, rfl⟩
                    obtain ⟨y, hy⟩ : ∃ y, y = TN.getD p 0 := ⟨_, rfl⟩
                    have x2 : x < 256 := by rw [hx]; exact YX.out.at r
                    have y2 : y < 256 := by rw [hy]; exact YT.out.at p
                    rw [← hx] at c0
                    rw [← hy] at c1
                    obtain ⟨u, hu⟩ : ∃ u, u = x ^^^ y := ⟨_, rfl⟩
                    have hxy : bits .xor .u8 (x : Int) (y : Int) = (u : Int) := by rw [hu]; exact xor_b x2 y2
                    have HU := Lib.hid (show u = (xorL (cbc k TN j) (blkL TN j)).getD r 0 by rw [xorL_at hr16, blkL_at hr16, hu, hx, hy, hp, ha.out])
                    have hst := Lib.hid (HR.out.set r u)
                    have UU := Lib.hid (show u < 256 by rw [hu]; exact xor_lt x2 y2)
                    clear hp hx hy hu x2 y2
                    go_upto_region 16 with fail
                    go_still_tail 11, (by kernel_rfl)
                    change wpList _ _ _ _ _ wr.drew
                    go_upto_region 17 with fail
                    change Code.wp _ _ _ _ (wr.drew.setCell ⟨V9.heap.size, r, none⟩ (.int .u8 (u : Int)))
                    have H16 := Lib.hid (hst.out.heap (w' := wr.drew.setCell ⟨V9.heap.size, r, none⟩ (.int .u8 (u : Int))) rfl rfl rfl rfl)
                    clear c0 c1 f0 hxy hst
                    generalize wr.drew.setCell ⟨V9.heap.size, r, none⟩ (.int .u8 (u : Int)) = w17 at *
                    have hEq := HEQ.out
                    have H17 : Hid (XF V9 (mixP Y (cbc k TN j) (r + 1)) w17) := Lib.hid (by
                      have h2 := H16.out
                      rw [HU.out, ← HY.out, mixP_set HLE.out (by rw [LX.out]; exact hr16)] at h2; exact h2)
                    clear H16 HU hpz hpw
                    go_wp2_with fail
                    clear hEq
                    go_roundw
                    case rel => exact ⟨r + 1, by omega, by go_num, H17.out⟩
                    case measure => simp [intOf]; omega
                  · have e : r = 16 := by omega
                    subst e
                    have hf : mixP Y (cbc k TN j) 16 = Y := by have := mixP_full HLE.out; rwa [LX.out] at this
                    have XY := HR.out
                    rw [hf] at XY
                    have HXY := Lib.hid XY
                    obtain ⟨VY, hVY⟩ : ∃ V, V = vec Y := ⟨_, rfl⟩
                    obtain ⟨VE, hVE⟩ : ∃ V, V = vec (encL k Y) := ⟨_, rfl⟩
                    have HVE := Lib.hid hVE
                    have RY := Lib.hid (hVY ▸ XY.b9.row : wr.heap[V9.heap.size]? = some (.cells VY 32 (0, 0)))
                    have RK := Lib.hid (HX.out ▸ (KV.out.below XY.bel KV.out.lt).row : wr.heap[w.heap.size]? = some (.cells X 32 (0, 0)))
                    have EN := Lib.hid (fun w => refencrypt_any k Y w HK.out YK.out LY.out YY.out)
                    rw [← HX.out, ← hVY, ← hVE] at EN
                    have UY := Lib.hid (show (Try.prog.info? 32).map (·.size) = some VY.size by rw [hVY]; exact vec_info LY.out)
                    have UE := Lib.hid (show (Try.prog.info? 32).map (·.size) = some VE.size by rw [hVE]; exact vec_info (encL_len _ _))
                    have ZE := Lib.hid (show VY.size = VE.size by rw [hVY, hVE, vec_size, vec_size, LY.out, encL_len])
                    have OE := Lib.hid (show VE.all (·.oneCell') = true by rw [hVE]; exact vec_one _)
                    have hVY2 := Lib.hid hVY
                    clear hf XY HR hVY hVE hr16 hr
                    go_wp2_with (first
                      | (refine wpList_load_row rfl 32 (.tmp 2) rfl w.heap.size rfl _ _ _ _ RK.out Try.underlying32 rfl UX.out ?_)
                      | (refine wpList_load_row rfl 32 (.tmp 9) rfl V9.heap.size rfl _ _ _ _ RY.out Try.underlying32 rfl UY.out ?_)
                      | (go_at_call 47; (with_reducible refine (EN.out _).mono ?_); rintro e w18 ⟨rfl, B18⟩
                         have H18 := Lib.hid (HXY.out.below B18)
                         have R18 := Lib.hid (hVY2.out ▸ H18.out.b9.row : w18.heap[V9.heap.size]? = some (.cells VY 32 (0, 0)))
                         have H19 := Lib.hid (H18.out.put (y := encL k Y))
                         rw [← HVE.out, HEN.out] at H19
                         clear B18 H18)
                      | (refine wpList_store_row rfl 32 (.tmp 9) (.tmp 76) rfl V9.heap.size _ rfl rfl _ _ R18.out UE.out ZE.out OE.out ?_))
                    clear R18
                    go_roundw
                    case rel => exact ⟨j + 1, a + 16, by omega, Lib.hid (by rw [ha.out]; omega), by go_num, H19.out⟩
                    case measure => simp [intOf]; have := ha.out; have := LN.out; omega
            · have e : j = N + 1 := by omega
              subst e
              have haL : ¬ (a : Int) < (L : Int) := by have := ha.out; have := LN.out; omega
              have eM : zR k TN LB N (N + 1) = MM := by unfold zR; rw [if_neg (by omega)]; exact MQ.out.symm
              have XM : XF V9 MM wr := by rw [← eM]; exact HXX.out
              have R9 := Lib.hid (HVM.out ▸ XM.b9.row : wr.heap[V9.heap.size]? = some (.cells VM 32 (0, 0)))
              have RO := Lib.hid ((OUV.out.below XM.bel OUV.out.lt).row)
              have BQ := Lib.hid (BWV.out.trans (XM.bel.mono BWV.out.size))
              have UM := Lib.hid (show (Try.prog.info? 32).map (·.size) = some VM.size by rw [HVM.out]; exact vec_info LMM.out)
              have ZM := Lib.hid (show (vec (zs 16)).size = VM.size by rw [HVM.out, vec_size, vec_size, LMM.out, zs_len])
              have OM := Lib.hid (show VM.all (·.oneCell') = true by rw [HVM.out]; exact vec_one _)
              clear XM eM HXX
              go_wp2_with (first
                | (refine wpList_load_row rfl 32 (.tmp 9) rfl V9.heap.size rfl _ _ _ _ R9.out Try.underlying32 rfl UM.out ?_)
                | (refine wpList_store_row rfl 32 (.tmp 4) (.tmp 77) rfl (w.heap.size + 1) _ rfl rfl _ _ RO.out UM.out ZM.out OM.out ?_))
              refine bodyPost_ret (v := .agg VM) (results_cell_row Try.results27 _ _ (w.heap.size + 1) _ _ _ _ (by rfl) (setRow_heap _ _ _ _ _ _ RO.out) Try.underlying32 rfl UM.out) rfl ⟨rfl, ?_⟩
              exact below_setRow BQ.out (by omega) _
    · have hq : n % 16 ≠ 0 := by omega
      have G8 := Lib.hid (show w.heap.size + 1 < g8 from LG8.out)
      have z1 : ¬ ((n : Int) % 16 = 0) := by omega
      have b35 := Lib.hid (show Bl 32 (w3.setRow g8 T) g8 (twoL k) by rw [HT.out]; exact b3.out.setRow)
      have r35 := Lib.hid (HO.out ▸ b3.out.row : w3.heap[g8]? = some (.cells O 32 (0, 0)))
      go_upto_region 6 with (first
        | (refine wpList_load_row rfl 32 (.tmp 6) rfl g6 rfl _ _ _ _ Q63.out Try.underlying32 rfl UT.out ?_)
        | (refine wpList_store_row rfl 32 (.tmp 8) (.tmp 29) rfl g8 _ rfl rfl _ _ r35.out UT.out OTS.out OT.out ?_))
      have O5 := Lib.hid (own_row_other O3.out r35.out (by decide) T)
      have LG := Lib.hid G8.out
      have K5 := Lib.hid (K3.out.row_other (k := g8) (by have := LG.out; omega) T)
      have OU5 := Lib.hid (OU3.out.row_other (k := g8) (by have := LG.out; omega) T)
      have BW5 := Lib.hid (below_setRow BW3.out (k := g8) (by have := LG.out; omega) T)
      have S57 := Lib.hid (show w7.heap.size ≤ (w3.setRow g8 T).heap.size by have := S37.out; simpa using this)
      generalize w3.setRow g8 T = w4 at *
      clear z1
      clear r35 O3 K3 OU3 BW3 b3 Q63
      go_upto_region 7 with (first
        | (at_builtin; (refine wpList_app1K _ rfl (.tmp 30) (.tmp 31) _ rfl 5 i0 _ 1 Try.underlying22 T1.out T2.out T3.out T4.out rfl w7.heap.size _ bs rfl O5.out 128 rfl (by rw [HBL.out]; simp only [maxLen]; omega) (by rw [HBL.out]; omega) S57.out (n + 1) (by rw [HBL.out]) ?_)
           intro A3 c3 w5 g3 g3' O6 B6 K6
           have P5 := Lib.hid (show PadR w7.heap.size w4 (bs ++ 128 :: List.replicate 0 0) (.slice A3 (n + 1) c3) w5 from ⟨A3, c3, n + 1, rfl, by simp [HBL.out], g3, g3', O6, B6, K6⟩)
           clear O6 B6 K6 g3 g3'))
      clear O5
      go_wp2_with fail
      go_loopw [7] (fun v wr => ∃ j : Nat, j ≤ 15 - n % 16 ∧ PadR w7.heap.size w4 (bs ++ 128 :: List.replicate j 0) v wr) (fun v _ => 16 - n % 16 + n + 1 - lenOf v)
      case atStart => exact ⟨0, Nat.zero_le _, P5.out⟩
      case round =>
        obtain ⟨j, hj, A4, c4, L, rfl, hl, g4, g4', O4, B4, K4⟩ := hrel
        have hL : L = n + 1 + j := by rw [← hl]; simp [HBL.out]; omega
        have HLj := Lib.hid hL
        have hL2 : L ≤ 10100 := by omega
        have HTl := Lib.hid hl
        have S4 := Lib.hid (Nat.le_trans S57.out (Below.size B4))
        have HO4 := Lib.hid O4
        have HB4 := Lib.hid B4
        have HK4 := Lib.hid K4
        clear hl hL O4 B4 K4
        by_cases hlt : j < 15 - n % 16
        · have e3 : ¬ ((L : Int) % 16 = 0) := by have := HLj.out; omega
          go_wp2_with (first
            | (at_builtin; (refine wpList_app1K _ rfl (.tmp 37) (.tmp 38) _ rfl 5 i0 _ 1 Try.underlying22 T1.out T2.out T3.out T4.out rfl w7.heap.size _ _ rfl HO4.out 0 rfl (by rw [HTl.out]; simp only [maxLen]; omega) (by rw [HTl.out]; omega) S4.out (L + 1) (by rw [HTl.out]) ?_)
               intro A5 c5 w6 g5' g5'' O6 B6 K6
               have P6 := Lib.hid (show PadR w7.heap.size w4 (bs ++ 128 :: List.replicate (j + 1) 0) (.slice A5 (L + 1) c5) w6 by
                 rw [pad_snoc] at O6
                 exact ⟨A5, c5, L + 1, rfl, by rw [← pad_snoc, List.length_append, HTl.out]; rfl, g5', g5'', O6, HB4.out.trans B6, HK4.out.trans K6⟩)
               clear O6 B6 K6 g5' g5''))
          clear e3
          go_roundw
          case rel => exact ⟨j + 1, by omega, P6.out⟩
          case measure => simp [lenOf]; have := HLj.out; omega
        · have e : j = 15 - n % 16 := by omega
          have e1 : (L : Int) % 16 = 0 := by have := HLj.out; omega
          obtain ⟨N, hN⟩ : ∃ N, N = n / 16 := ⟨_, rfl⟩
          have LN := Lib.hid (show L = 16 * N + 16 by have := HLj.out; omega)
          have LN2 := Lib.hid (show L ≤ 10100 from hL2)
          have MQ := Lib.hid (HMM.out.trans <| mac_pad (k := k) (bs := bs) (N := N) (q := n % 16) (j := j) (by rw [HBL.out]; omega) (by omega) (by omega))
          have NU := Lib.hid HO4.out.nums
          have TB := Lib.hid (show ∀ x ∈ bs ++ 128 :: List.replicate j 0, Byte x by
            intro x hx
            rcases List.mem_append.1 hx with h1 | h1
            · exact HBY.out x h1
            · rcases List.mem_cons.1 h1 with rfl | h1
              · exact ⟨by decide, by decide⟩
              · rw [List.eq_of_mem_replicate h1]; exact ⟨by decide, by decide⟩)
          obtain ⟨TL, hTL⟩ : ∃ TL, TL = bs ++ 128 :: List.replicate j 0 := ⟨_, rfl⟩
          rw [← hTL] at MQ NU TB
          have B8V := Lib.hid (HK4.out.bl b35.out (by decide))
          have YLB := Lib.hid (twoL_by YK.out HK.out)
          have LLB := Lib.hid (twoL_len k)
          obtain ⟨LB, hLB⟩ : ∃ B, B = twoL k := ⟨_, rfl⟩
          rw [← hLB] at MQ B8V YLB LLB
          have KV := Lib.hid (HK4.out.bl K5.out (by decide))
          have OUV := Lib.hid (HK4.out.bl OU5.out (by decide))
          have BWV := Lib.hid (BW5.out.trans (HB4.out.mono (by have := BW7s.out; omega)))
          have hc4 : c4 ≤ 9223372036854775807 := by simpa [maxLen] using g4'
          clear e hlt hN hTL hLB HLj HTl S4 HO4 HB4 HK4 hj
          obtain ⟨V9, hV9⟩ : ∃ V9, V9 = wr := ⟨_, rfl⟩
          subst hV9
          go_upto_region 9 with fail
          clear e1
          have hTN := TB.out
          obtain ⟨b, o, rfl, hbb, hcell⟩ := NU.out.at_ (show 0 < L by have := LN.out; omega)
          have CELL := Lib.hid (show ∀ w', Below V9.heap.size V9 w' → ∀ i, i < L → w'.cell? ⟨b, o + i, none⟩ = some (.int .u8 ((((nats TL).getD i 0 : Nat)) : Int)) from fun w' h i hi => by
            rw [h.cell (p := ⟨b, o + i, none⟩) hbb, hcell i hi, nats_at TB.out])
          have YT := Lib.hid (nats_by TB.out)
          obtain ⟨TN, hTNe⟩ : ∃ TN, TN = nats TL := ⟨_, rfl⟩
          rw [← hTNe] at CELL YT MQ
          clear hbb hcell hTN hTNe
          go_upto_region 10 with fail
          have X0 := Lib.hid (show XF V9 (zR k TN LB N 0) (V9.alloc (.cells Z 32)) from ⟨by
            have e : zR k TN LB N 0 = zs 16 := by unfold zR; rw [if_pos (Nat.zero_le _)]; rfl
            rw [e, HZ.out]; exact Bl.new _ _ _, alloc_below _ _⟩)
          generalize V9.alloc (.cells Z 32) = v9 at *
          clear hzv
          go_wp2_with fail
          go_loopw [10] (fun i wr => ∃ j a : Nat, j ≤ N + 1 ∧ Hid (a = 16 * j) ∧ i = .int .i64 (a : Int) ∧ XF V9 (zR k TN LB N j) wr) (fun i _ => L - (intOf i).toNat)
          case atStart => exact ⟨0, 0, by omega, Lib.hid rfl, rfl, X0.out⟩
          case round =>
            obtain ⟨j, a, hj, ha, rfl, XX⟩ := hrel
            have HXX := Lib.hid XX
            clear XX
            by_cases hlt : j ≤ N
            · have haL : (a : Int) < (L : Int) := by have := ha.out; have := LN.out; omega
              have haL2 : (a : Int) + 16 ≤ (L : Int) := by have := ha.out; have := LN.out; omega
              have eX : zR k TN LB N j = cbc k TN j := by unfold zR; rw [if_pos hlt]
              have HEX := Lib.hid eX
              have H13 : Hid (XF V9 (cbc k TN j) wr) := Lib.hid (by rw [← HEX.out]; exact HXX.out)
              have LX := Lib.hid (cbc_len k TN j)
              have YX := Lib.hid (cbc_by YK.out HK.out TN j)
              clear eX HXX
              by_cases hlast : j = N
              · have hEq : (a : Int) + 16 = (L : Int) := by have := ha.out; have := LN.out; omega
                obtain ⟨Y, hY⟩ : ∃ Y, Y = xorL (xorL (cbc k TN j) (blkL TN j)) LB := ⟨_, rfl⟩
                have HY := Lib.hid hY
                have LY := Lib.hid (show Y.length = 16 by rw [hY]; exact xorL_len _ _)
                have YY := Lib.hid (show BY Y by rw [hY]; exact xorL_by (xorL_by YX.out (blkL_by YT.out j)) YLB.out)
                have HEN := Lib.hid (show encL k Y = zR k TN LB N (j + 1) by rw [hY, hlast]; unfold zR; rw [if_neg (by omega)])
                clear hY
                have hab : (a : Int) ≤ 20000 := by have := LN2.out; omega
                have HAL := Lib.hid haL
                have HEQ := Lib.hid hEq
                clear haL2 hEq
                go_upto_region 13 with fail
                clear haL
                go_wp2_with fail
                go_loopw [11] (fun i wx => ∃ r : Nat, r ≤ 16 ∧ i = .int .i64 (r : Int) ∧ XF V9 (mixP Y (cbc k TN j) r) wx) (fun i _ => 16 - (intOf i).toNat)
                case atStart => exact ⟨0, by omega, rfl, by rw [mixP_zero]; exact H13.out⟩
                case round =>
                  obtain ⟨r, hr, rfl, XX⟩ := hrel
                  have HR := Lib.hid XX
                  clear XX
                  have hlen : Y.length = (cbc k TN j).length := by rw [LY.out, LX.out]
                  have HLE := Lib.hid hlen
                  clear hlen
                  by_cases hr16 : r < 16
                  · have hrz : (r : Int) < 16 := by omega
                    obtain ⟨p, hp⟩ : ∃ p, p = a + r := ⟨_, rfl⟩
                    have hpz : (a : Int) + (r : Int) = (p : Int) := by omega
                    have hpL : (p : Int) < (L : Int) := by have := HAL.out; have := ha.out; have := LN.out; omega
                    have hpb : (p : Int) ≤ 20000 := by have := LN2.out; omega
                    have hpw : IntKind.i64.wrap (p : Int) = (p : Int) := IntWalk.i64_in _ (by omega)
                    have c0 := HR.out.b9.cell (j := r) (by rw [mixP_len HLE.out, LX.out]; exact hr16)
                    rw [mixP_old HLE.out (Nat.le_refl _)] at c0
                    have c1 := CELL.out _ HR.out.bel p (by omega)
                    have f0 := HR.out.b9.frozen r
                    obtain ⟨x, hx⟩ : ∃ x, x = (cbc k TN j).getD r 0 := ⟨_, rfl⟩
                    obtain ⟨y, hy⟩ : ∃ y, y = TN.getD p 0 := ⟨_, rfl⟩
                    have x2 : x < 256 := by rw [hx]; exact YX.out.at r
                    have y2 : y < 256 := by rw [hy]; exact YT.out.at p
                    rw [← hx] at c0
                    rw [← hy] at c1
                    obtain ⟨u, hu⟩ : ∃ u, u = x ^^^ y := ⟨_, rfl⟩
                    have hxy : bits .xor .u8 (x : Int) (y : Int) = (u : Int) := by rw [hu]; exact xor_b x2 y2
                    have HU := Lib.hid (show u = (xorL (cbc k TN j) (blkL TN j)).getD r 0 by rw [xorL_at hr16, blkL_at hr16, hu, hx, hy, hp, ha.out])
                    have hst := Lib.hid (HR.out.set r u)
                    have UU := Lib.hid (show u < 256 by rw [hu]; exact xor_lt x2 y2)
                    clear hp hx hy hu x2 y2
                    go_upto_region 16 with fail
                    go_still_tail 11, (by kernel_rfl)
                    change wpList _ _ _ _ _ wr.drew
                    go_upto_region 17 with fail
                    change Code.wp _ _ _ _ (wr.drew.setCell ⟨V9.heap.size, r, none⟩ (.int .u8 (u : Int)))
                    have H16 := Lib.hid (hst.out.heap (w' := wr.drew.setCell ⟨V9.heap.size, r, none⟩ (.int .u8 (u : Int))) rfl rfl rfl rfl)
                    clear c0 c1 f0 hxy hst
                    generalize wr.drew.setCell ⟨V9.heap.size, r, none⟩ (.int .u8 (u : Int)) = w17 at *
                    have hEq := HEQ.out
                    have c0 := H16.out.b9.cell (j := r) (by rw [List.length_set, mixP_len HLE.out, LX.out]; exact hr16)
                    rw [List.getD_eq_getElem?_getD, List.getElem?_set_self (by rw [mixP_len HLE.out, LX.out]; exact hr16)] at c0
                    change w17.cell? ⟨V9.heap.size, r, none⟩ = some (.int .u8 (u : Int)) at c0
                    have c1 := (B8V.out.below H16.out.bel B8V.out.lt).cell (j := r) (by rw [LLB.out]; exact hr16)
                    have f0 := H16.out.b9.frozen r
                    have hl2 := YLB.out.at r
                    obtain ⟨l, hl⟩ : ∃ l, l = LB.getD r 0 := ⟨_, rfl⟩
                    rw [← hl] at c1 hl2
                    obtain ⟨v, hv⟩ : ∃ v, v = u ^^^ l := ⟨_, rfl⟩
                    have hul : bits .xor .u8 (u : Int) (l : Int) = (v : Int) := by rw [hv]; exact xor_b UU.out hl2
                    have hst := H16.out.set r v
                    rw [List.set_set, show v = Y.getD r 0 by rw [HY.out, xorL_at hr16, ← HU.out, ← hl, hv], mixP_set HLE.out (by rw [LX.out]; exact hr16)] at hst
                    rw [show Y.getD r 0 = v by rw [HY.out, xorL_at hr16, ← HU.out, ← hl, hv]] at hst
                    have HS := Lib.hid hst
                    clear hst hv hl H16 HU hl2 hpz hpw
                    go_upto_region 18 with fail
                    clear hEq
                    go_still_tail 8, (by kernel_rfl)
                    change wpList _ _ _ _ _ w17.drew
                    go_wp2_with fail
                    go_roundw
                    case rel => exact ⟨r + 1, by omega, by go_num, HS.out.heap rfl rfl rfl rfl⟩
                    case measure => simp [intOf]; omega
                  · have e : r = 16 := by omega
                    subst e
                    have hf : mixP Y (cbc k TN j) 16 = Y := by have := mixP_full HLE.out; rwa [LX.out] at this
                    have XY := HR.out
                    rw [hf] at XY
                    have HXY := Lib.hid XY
                    obtain ⟨VY, hVY⟩ : ∃ V, V = vec Y := ⟨_, rfl⟩
                    obtain ⟨VE, hVE⟩ : ∃ V, V = vec (encL k Y) := ⟨_, rfl⟩
                    have HVE := Lib.hid hVE
                    have RY := Lib.hid (hVY ▸ XY.b9.row : wr.heap[V9.heap.size]? = some (.cells VY 32 (0, 0)))
                    have RK := Lib.hid (HX.out ▸ (KV.out.below XY.bel KV.out.lt).row : wr.heap[w.heap.size]? = some (.cells X 32 (0, 0)))
                    have EN := Lib.hid (fun w => refencrypt_any k Y w HK.out YK.out LY.out YY.out)
                    rw [← HX.out, ← hVY, ← hVE] at EN
                    have UY := Lib.hid (show (Try.prog.info? 32).map (·.size) = some VY.size by rw [hVY]; exact vec_info LY.out)
                    have UE := Lib.hid (show (Try.prog.info? 32).map (·.size) = some VE.size by rw [hVE]; exact vec_info (encL_len _ _))
                    have ZE := Lib.hid (show VY.size = VE.size by rw [hVY, hVE, vec_size, vec_size, LY.out, encL_len])
                    have OE := Lib.hid (show VE.all (·.oneCell') = true by rw [hVE]; exact vec_one _)
                    have hVY2 := Lib.hid hVY
                    clear hf XY HR hVY hVE hr16 hr
                    go_wp2_with (first
                      | (refine wpList_load_row rfl 32 (.tmp 2) rfl w.heap.size rfl _ _ _ _ RK.out Try.underlying32 rfl UX.out ?_)
                      | (refine wpList_load_row rfl 32 (.tmp 9) rfl V9.heap.size rfl _ _ _ _ RY.out Try.underlying32 rfl UY.out ?_)
                      | (go_at_call 47; (with_reducible refine (EN.out _).mono ?_); rintro e w18 ⟨rfl, B18⟩
                         have H18 := Lib.hid (HXY.out.below B18)
                         have R18 := Lib.hid (hVY2.out ▸ H18.out.b9.row : w18.heap[V9.heap.size]? = some (.cells VY 32 (0, 0)))
                         have H19 := Lib.hid (H18.out.put (y := encL k Y))
                         rw [← HVE.out, HEN.out] at H19
                         clear B18 H18)
                      | (refine wpList_store_row rfl 32 (.tmp 9) (.tmp 76) rfl V9.heap.size _ rfl rfl _ _ R18.out UE.out ZE.out OE.out ?_))
                    clear R18
                    go_roundw
                    case rel => exact ⟨j + 1, a + 16, by omega, Lib.hid (by rw [ha.out]; omega), by go_num, H19.out⟩
                    case measure => simp [intOf]; have := ha.out; have := LN.out; omega
              · have hEq : ¬ ((a : Int) + 16 = (L : Int)) := by have := ha.out; have := LN.out; omega
                obtain ⟨Y, hY⟩ : ∃ Y, Y = xorL (cbc k TN j) (blkL TN j) := ⟨_, rfl⟩
                have HY := Lib.hid hY
                have LY := Lib.hid (show Y.length = 16 by rw [hY]; exact xorL_len _ _)
                have YY := Lib.hid (show BY Y by rw [hY]; exact xorL_by YX.out (blkL_by YT.out j))
                have HEN := Lib.hid (show encL k Y = zR k TN LB N (j + 1) by rw [hY]; unfold zR; rw [if_pos (by omega)]; rfl)
                clear hY
                have hab : (a : Int) ≤ 20000 := by have := LN2.out; omega
                have HAL := Lib.hid haL
                have HEQ := Lib.hid hEq
                clear haL2 hEq
                go_upto_region 13 with fail
                clear haL
                go_wp2_with fail
                go_loopw [11] (fun i wx => ∃ r : Nat, r ≤ 16 ∧ i = .int .i64 (r : Int) ∧ XF V9 (mixP Y (cbc k TN j) r) wx) (fun i _ => 16 - (intOf i).toNat)
                case atStart => exact ⟨0, by omega, rfl, by rw [mixP_zero]; exact H13.out⟩
                case round =>
                  obtain ⟨r, hr, rfl, XX⟩ := hrel
                  have HR := Lib.hid XX
                  clear XX
                  have hlen : Y.length = (cbc k TN j).length := by rw [LY.out, LX.out]
                  have HLE := Lib.hid hlen
                  clear hlen
                  by_cases hr16 : r < 16
                  · have hrz : (r : Int) < 16 := by omega
                    obtain ⟨p, hp⟩ : ∃ p, p = a + r := ⟨_, rfl⟩
                    have hpz : (a : Int) + (r : Int) = (p : Int) := by omega
                    have hpL : (p : Int) < (L : Int) := by have := HAL.out; have := ha.out; have := LN.out; omega
                    have hpb : (p : Int) ≤ 20000 := by have := LN2.out; omega
                    have hpw : IntKind.i64.wrap (p : Int) = (p : Int) := IntWalk.i64_in _ (by omega)
                    have c0 := HR.out.b9.cell (j := r) (by rw [mixP_len HLE.out, LX.out]; exact hr16)
                    rw [mixP_old HLE.out (Nat.le_refl _)] at c0
                    have c1 := CELL.out _ HR.out.bel p (by omega)
                    have f0 := HR.out.b9.frozen r
                    obtain ⟨x, hx⟩ : ∃ x, x = (cbc k TN j).getD r 0 := ⟨_, rfl⟩
                    obtain ⟨y, hy⟩ : ∃ y, y = TN.getD p 0 := ⟨_, rfl⟩
                    have x2 : x < 256 := by rw [hx]; exact YX.out.at r
                    have y2 : y < 256 := by rw [hy]; exact YT.out.at p
                    rw [← hx] at c0
                    rw [← hy] at c1
                    obtain ⟨u, hu⟩ : ∃ u, u = x ^^^ y := ⟨_, rfl⟩
                    have hxy : bits .xor .u8 (x : Int) (y : Int) = (u : Int) := by rw [hu]; exact xor_b x2 y2
                    have HU := Lib.hid (show u = (xorL (cbc k TN j) (blkL TN j)).getD r 0 by rw [xorL_at hr16, blkL_at hr16, hu, hx, hy, hp, ha.out])
                    have hst := Lib.hid (HR.out.set r u)
                    have UU := Lib.hid (show u < 256 by rw [hu]; exact xor_lt x2 y2)
                    clear hp hx hy hu x2 y2
                    go_upto_region 16 with fail
                    go_still_tail 11, (by kernel_rfl)
                    change wpList _ _ _ _ _ wr.drew
                    go_upto_region 17 with fail
                    change Code.wp _ _ _ _ (wr.drew.setCell ⟨V9.heap.size, r, none⟩ (.int .u8 (u : Int)))
                    have H16 := Lib.hid (hst.out.heap (w' := wr.drew.setCell ⟨V9.heap.size, r, none⟩ (.int .u8 (u : Int))) rfl rfl rfl rfl)
                    clear c0 c1 f0 hxy hst
                    generalize wr.drew.setCell ⟨V9.heap.size, r, none⟩ (.int .u8 (u : Int)) = w17 at *
                    have hEq := HEQ.out
                    have H17 : Hid (XF V9 (mixP Y (cbc k TN j) (r + 1)) w17) := Lib.hid (by
                      have h2 := H16.out
                      rw [HU.out, ← HY.out, mixP_set HLE.out (by rw [LX.out]; exact hr16)] at h2; exact h2)
                    clear H16 HU hpz hpw
                    go_wp2_with fail
                    clear hEq
                    go_roundw
                    case rel => exact ⟨r + 1, by omega, by go_num, H17.out⟩
                    case measure => simp [intOf]; omega
                  · have e : r = 16 := by omega
                    subst e
                    have hf : mixP Y (cbc k TN j) 16 = Y := by have := mixP_full HLE.out; rwa [LX.out] at this
                    have XY := HR.out
                    rw [hf] at XY
                    have HXY := Lib.hid XY
                    obtain ⟨VY, hVY⟩ : ∃ V, V = vec Y := ⟨_, rfl⟩
                    obtain ⟨VE, hVE⟩ : ∃ V, V = vec (encL k Y) := ⟨_, rfl⟩
                    have HVE := Lib.hid hVE
                    have RY := Lib.hid (hVY ▸ XY.b9.row : wr.heap[V9.heap.size]? = some (.cells VY 32 (0, 0)))
                    have RK := Lib.hid (HX.out ▸ (KV.out.below XY.bel KV.out.lt).row : wr.heap[w.heap.size]? = some (.cells X 32 (0, 0)))
                    have EN := Lib.hid (fun w => refencrypt_any k Y w HK.out YK.out LY.out YY.out)
                    rw [← HX.out, ← hVY, ← hVE] at EN
                    have UY := Lib.hid (show (Try.prog.info? 32).map (·.size) = some VY.size by rw [hVY]; exact vec_info LY.out)
                    have UE := Lib.hid (show (Try.prog.info? 32).map (·.size) = some VE.size by rw [hVE]; exact vec_info (encL_len _ _))
                    have ZE := Lib.hid (show VY.size = VE.size by rw [hVY, hVE, vec_size, vec_size, LY.out, encL_len])
                    have OE := Lib.hid (show VE.all (·.oneCell') = true by rw [hVE]; exact vec_one _)
                    have hVY2 := Lib.hid hVY
                    clear hf XY HR hVY hVE hr16 hr
                    go_wp2_with (first
                      | (refine wpList_load_row rfl 32 (.tmp 2) rfl w.heap.size rfl _ _ _ _ RK.out Try.underlying32 rfl UX.out ?_)
                      | (refine wpList_load_row rfl 32 (.tmp 9) rfl V9.heap.size rfl _ _ _ _ RY.out Try.underlying32 rfl UY.out ?_)
                      | (go_at_call 47; (with_reducible refine (EN.out _).mono ?_); rintro e w18 ⟨rfl, B18⟩
                         have H18 := Lib.hid (HXY.out.below B18)
                         have R18 := Lib.hid (hVY2.out ▸ H18.out.b9.row : w18.heap[V9.heap.size]? = some (.cells VY 32 (0, 0)))
                         have H19 := Lib.hid (H18.out.put (y := encL k Y))
                         rw [← HVE.out, HEN.out] at H19
                         clear B18 H18)
                      | (refine wpList_store_row rfl 32 (.tmp 9) (.tmp 76) rfl V9.heap.size _ rfl rfl _ _ R18.out UE.out ZE.out OE.out ?_))
                    clear R18
                    go_roundw
                    case rel => exact ⟨j + 1, a + 16, by omega, Lib.hid (by rw [ha.out]; omega), by go_num, H19.out⟩
                    case measure => simp [intOf]; have := ha.out; have := LN.out; omega
            · have e : j = N + 1 := by omega
              subst e
              have haL : ¬ (a : Int) < (L : Int) := by have := ha.out; have := LN.out; omega
              have eM : zR k TN LB N (N + 1) = MM := by unfold zR; rw [if_neg (by omega)]; exact MQ.out.symm
              have XM : XF V9 MM wr := by rw [← eM]; exact HXX.out
              have R9 := Lib.hid (HVM.out ▸ XM.b9.row : wr.heap[V9.heap.size]? = some (.cells VM 32 (0, 0)))
              have RO := Lib.hid ((OUV.out.below XM.bel OUV.out.lt).row)
              have BQ := Lib.hid (BWV.out.trans (XM.bel.mono BWV.out.size))
              have UM := Lib.hid (show (Try.prog.info? 32).map (·.size) = some VM.size by rw [HVM.out]; exact vec_info LMM.out)
              have ZM := Lib.hid (show (vec (zs 16)).size = VM.size by rw [HVM.out, vec_size, vec_size, LMM.out, zs_len])
              have OM := Lib.hid (show VM.all (·.oneCell') = true by rw [HVM.out]; exact vec_one _)
              clear XM eM HXX
              go_wp2_with (first
                | (refine wpList_load_row rfl 32 (.tmp 9) rfl V9.heap.size rfl _ _ _ _ R9.out Try.underlying32 rfl UM.out ?_)
                | (refine wpList_store_row rfl 32 (.tmp 4) (.tmp 77) rfl (w.heap.size + 1) _ rfl rfl _ _ RO.out UM.out ZM.out OM.out ?_))
              refine bodyPost_ret (v := .agg VM) (results_cell_row Try.results27 _ _ (w.heap.size + 1) _ _ _ _ (by rfl) (setRow_heap _ _ _ _ _ _ RO.out) Try.underlying32 rfl UM.out) rfl ⟨rfl, ?_⟩
              exact below_setRow BQ.out (by omega) _
end Go.Proofs.Ythbgjjfhgbkbdaa.aesC
