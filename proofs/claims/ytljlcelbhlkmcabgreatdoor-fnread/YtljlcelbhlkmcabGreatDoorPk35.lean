/- Texts in one: EfG. -/
import Derived.Test.YtljlcelbhlkmcabGreatDoorPk33
import Derived.Test.YtljlcelbhlkmcabGreatDoorPk34
import Derived.Test.YtljlcelbhlkmcabGreatDoorPk14
/- Chapter 5, the landed code: an entry read of its text. -/
namespace Go.Proofs.YtljlcelbhlkmcabGreatDoor.Ent
open Go.RowKit Go.Proofs.YtljlcelbhlkmcabGreatDoor.Mem Go.Proofs.YtljlcelbhlkmcabGreatDoor.Laws Go.Proofs.YtljlcelbhlkmcabGreatDoor.Bytes Go.Proofs.YtljlcelbhlkmcabGreatDoor.Sha Go.Proofs.YtljlcelbhlkmcabGreatDoor.Ver Go.Proofs.YtljlcelbhlkmcabGreatDoor.Mod
set_option linter.unusedVariables false
set_option linter.unusedSimpArgs false

/-- how an answer of readEntry is told: an entry and an error -/
def Rd (s : ByteArray) (w : World) (e : Ending) (w' : World) : Prop :=
  ∃ (n : Nd) (ao : Option Addr) (m cap : Nat) (er : Value), e = .returned (.tuple #[.agg #[.string n.path, .int .i64 n.a, .int .i64 n.b, .int .i64 n.c, .string n.pre, .slice ao m cap], er]) ∧ Er er (get5 s).2.2 ∧ ((get5 s).2.2 = true → n = (get5 s).1 ∧ Od w' w.heap.size w'.heap.size (.slice ao m cap) (get5 s).2.1) ∧ Below w.heap.size w w'
theorem cellRow {w : World} {g : Nat} {cs : Array Value} {p : Addr} {x : Value} (hp : p.block ≠ g) (h : w.cell? p = some x) : (w.setRow g cs).cell? p = some x := by
  have e := setRow_other w g p.block cs hp
  unfold World.cell? at h ⊢
  rw [e]
  exact h

set_option maxRecDepth 1000000 in
set_option maxHeartbeats 4000000 in
theorem rd_impl (w : World) (s : ByteArray) (hs : s.size ≤ 1048576) : Calls Tryz.prog 58 #[.string s] w fun e w' => Rd s w e w' := by
  obtain ⟨i0, hi, hz0, hz1, hz2⟩ := info_parts infoN5
  obtain ⟨W0, hW0⟩ : ∃ W0, w.alloc (.cells #[.string ⟨#[]⟩, .int .i64 0, .int .i64 0, .int .i64 0, .string ⟨#[]⟩, .slice none 0 0] 28) = W0 := ⟨_, rfl⟩
  have hR0 : W0.heap[w.heap.size]? = some (.cells (ec nil5 (.slice none 0 0)) 28 (0, 0)) := by rw [← hW0]; exact heap_alloc_new w _
  have hB0 : Below w.heap.size w W0 := by rw [← hW0]; exact (Below.refl _ _).alloc (Nat.le_refl _) _
  have hz2' : W0.heap.size = w.heap.size + 1 := by rw [← hW0]; simp
  obtain ⟨cap, W1, hcv, hsl, hB1⟩ := strBytes W0 s (by omega)
  rw [← hW0] at hcv
  have HZ0 : Hid (W0.heap.size = w.heap.size + 1) := hz2'
  have HR0 : Hid _ := rowKeep hR0 hB1
  have HB : Hid (Below w.heap.size w W1) := hB0.trans (hB1.mono hB0.size)
  have q1 := GetT.text_impl W1 _ (sb s) 0 hsl (sb_byt s) (by rw [sb_len]; omega) (by omega) (by omega)
  have g1 := getText_small (sb s) 0
  obtain ⟨nm, p, ok, ht⟩ : ∃ nm p ok, Plain.getText (sb s) 0 = (nm, p, ok) := ⟨_, _, _, rfl⟩
  rw [ht] at q1 g1
  simp only at q1 g1
  have q2 := GetTs.texts_impl W1 _ (sb s) p hsl (sb_byt s) (by rw [sb_len]; omega) (by omega) (by rw [sb_len] at g1; omega)
  unfold GetTs.Done at q2
  have g2 := getTexts_small (sb s) p
  have g3 := Plain.getTexts_len (sb s) p
  obtain ⟨ts, q, is, hts⟩ : ∃ ts q is, Plain.getTexts (sb s) p = (ts, q, is) := ⟨_, _, _, rfl⟩
  rw [hts] at q2 g2 g3
  simp only at q2 g2 g3
  rw [sb_len] at g1 g2
  have q3 : ∀ W, _ := fun W => pname_impl W nm (by omega)
  have g4 := pname_size nm
  obtain ⟨n, good, hn⟩ : ∃ n good, pname nm = (n, good) := ⟨_, _, rfl⟩
  rw [hn] at g4
  simp only [hn] at q3
  simp only at g4
  have HG : Hid (get5 s = if ok = true ∧ is = true ∧ good = true ∧ q = (s.size : Int) then get5t n ts else no5) := by
    show _ = _
    unfold get5
    rw [ht]
    simp only
    rw [hts, hn]
  have HG2 : Hid (∀ t ∈ ts, t.size ≤ s.size) := g2
  clear hW0 hR0 hB0 hB1 hz2' hsl ht hts hn g2
  rw [HZ0.out] at q1 q2
  go_enter Tryz.func58, Tryz.ntmps58
  go_wp2_with fail
  refine q1.mono ?_
  rintro e w2 ⟨rfl, hw2⟩
  subst hw2
  clear q1 hcv
  cases ok
  · have HN : Hid (get5 s = no5) := by show _ = _; rw [HG.out, if_neg (by rintro ⟨h, _⟩; cases h)]
    clear HG
    go_wp2_with (refine wpList_store_row rfl 28 _ _ rfl w.heap.size (ec nil5 (.slice none 0 0)) rfl rfl 28 _ HR0.out (sizeE nil5 _) rfl (oneE nil5 (one_slice _ _ _)) ?_)
    exact bodyPost_ret (results_row_tmp rfl _ _ w.heap.size 28 (ec nil5 (.slice none 0 0)) (0, 0) _ rfl (setRow_heap _ _ _ _ _ (0, 0) HR0.out) Tryz.underlying28 rfl (sizeE nil5 _)) rfl ⟨nil5, none, 0, 0, _, rfl, Or.inr ⟨by rw [HN.out]; rfl, _, rfl⟩, fun h => (by rw [HN.out] at h; cases h), below_setRow HB.out (Nat.le_refl _) _⟩
  go_wp2_with fail
  refine q2.mono ?_
  rintro e w3 ⟨vt, rfl, ot, b3⟩
  have HR0a : Hid _ := rowKeep HR0.out b3
  have HBa : Hid (Below w.heap.size w w3) := HB.out.trans (b3.mono HB.out.size)
  have HOt : Hid _ := ot
  clear q2 HR0 HB b3 ot
  cases is
  · have HN : Hid (get5 s = no5) := by show _ = _; rw [HG.out, if_neg (by rintro ⟨_, h, _⟩; cases h)]
    clear HG
    go_wp2_with (refine wpList_store_row rfl 28 _ _ rfl w.heap.size (ec nil5 (.slice none 0 0)) rfl rfl 28 _ HR0a.out (sizeE nil5 _) rfl (oneE nil5 (one_slice _ _ _)) ?_)
    exact bodyPost_ret (results_row_tmp rfl _ _ w.heap.size 28 (ec nil5 (.slice none 0 0)) (0, 0) _ rfl (setRow_heap _ _ _ _ _ (0, 0) HR0a.out) Tryz.underlying28 rfl (sizeE nil5 _)) rfl ⟨nil5, none, 0, 0, _, rfl, Or.inr ⟨by rw [HN.out]; rfl, _, rfl⟩, fun h => (by rw [HN.out] at h; cases h), below_setRow HBa.out (Nat.le_refl _) _⟩
  by_cases hq : q = (s.size : Int)
  · have dq : (q != (s.size : Int)) = false := by simpa using hq
    have HG1 : Hid (get5 s = if good = true then get5t n ts else no5) := by
      show _ = _
      rw [HG.out]
      cases good
      · simp
      · simp [hq]
    clear HG hq
    go_wp2_with fail
    refine (q3 _).mono ?_
    rintro e w4 ⟨rfl, b4⟩
    have K0 : Hid (w4.heap[w.heap.size]? = some (.cells (ec nil5 (.slice none 0 0)) 28 (0, 0))) := rowKeep HR0a.out b4
    have KB : Hid (Below w.heap.size w w4) := HBa.out.trans (b4.mono HBa.out.size)
    have KSl := (Mem.Own.sl HOt.out).later b4
    have hvt : ∃ ao cap, vt = .slice ao ts.length cap := by
      obtain ⟨ao, c, rfl, _⟩ := KSl
      exact ⟨ao, c, by rw [ss_len]⟩
    obtain ⟨aot, capt, rfl⟩ := hvt
    have KS : Hid (Sl w4 (.slice aot ts.length capt) (ss ts)) := KSl
    clear q3 HR0a HBa HOt b4 KSl dq
    have HRn : Hid (Nr (w4.alloc (.cells #[.string n.path, .int .i64 n.a, .int .i64 n.b, .int .i64 n.c, .string n.pre] 35)) w4.heap.size n) := heap_alloc_new w4 _
    have HR5 : Hid ((w4.alloc (.cells #[.string n.path, .int .i64 n.a, .int .i64 n.b, .int .i64 n.c, .string n.pre] 35)).heap[w.heap.size]? = some (.cells (ec nil5 (.slice none 0 0)) 28 (0, 0))) := rowKeep K0.out ((Below.refl _ _).alloc (Nat.le_refl _) _)
    have HB5 : Hid (Below w.heap.size w (w4.alloc (.cells #[.string n.path, .int .i64 n.a, .int .i64 n.b, .int .i64 n.c, .string n.pre] 35))) := KB.out.alloc KB.out.size _
    cases good
    · have HN : Hid (get5 s = no5) := HG1.out
      clear HG1 HRn
      go_wp2_with (refine wpList_store_row rfl 28 _ _ rfl w.heap.size (ec nil5 (.slice none 0 0)) rfl rfl 28 _ HR5.out (sizeE nil5 _) rfl (oneE nil5 (one_slice _ _ _)) ?_)
      exact bodyPost_ret (results_row_tmp rfl _ _ w.heap.size 28 (ec nil5 (.slice none 0 0)) (0, 0) _ rfl (setRow_heap _ _ _ _ _ (0, 0) HR5.out) Tryz.underlying28 rfl (sizeE nil5 _)) rfl ⟨nil5, none, 0, 0, _, rfl, Or.inr ⟨by rw [HN.out]; rfl, _, rfl⟩, fun h => (by rw [HN.out] at h; cases h), below_setRow HB5.out (Nat.le_refl _) _⟩
    have HG' : Hid (get5 s = get5t n ts) := HG1.out
    obtain ⟨n0, n1, n2, n3, n4⟩ := Nr.cells HRn.out
    clear HG1 HR5 HB5 HRn
    go_wp2_with fail
    obtain ⟨W6, HW6, H6r, H6b, H6s⟩ : ∃ W6, Hid ((w4.alloc (.cells #[.string n.path, .int .i64 n.a, .int .i64 n.b, .int .i64 n.c, .string n.pre] 35)).alloc (.cells #[.string n.path, .int .i64 n.a, .int .i64 n.b, .int .i64 n.c, .string n.pre, .slice none 0 0] 28) = W6) ∧ Hid (W6.heap[w4.heap.size + 1]? = some (.cells (ec n (.slice none 0 0)) 28 (0, 0))) ∧ Hid (Below w4.heap.size w4 W6) ∧ Hid (W6.heap.size = w4.heap.size + 1 + 1) :=
      ⟨_, rfl, heap_alloc2_new w4 _ _, ((Below.refl _ _).alloc (Nat.le_refl _) _).alloc (by simp) _, (by show _ = _; simp)⟩
    rw [HW6.out]
    clear n0 n1 n2 n3 n4 HW6
    go_loopw [65] (fun i wr => ∃ (k : Nat) (l : List Nd) (vn : Value), k ≤ ts.length ∧ i = .int .i64 (k : Int) ∧ Hid (l.length = k) ∧ Hid (needsOf (ts.take k) = some l) ∧ Hid (∀ x ∈ l, x.path.size ≤ s.size ∧ x.pre.size ≤ s.size) ∧ wr.heap[w4.heap.size + 1]? = some (.cells (ec n vn) 28 (0, 0)) ∧ W6.heap.size ≤ wr.heap.size ∧ Od wr W6.heap.size wr.heap.size vn l ∧ Below w4.heap.size w4 wr) (fun i _ => ts.length - (intOf i).toNat)
    case atStart => exact ⟨0, [], .slice none 0 0, Nat.zero_le _, rfl, rfl, by show _ = _; simp [needsOf], fun x hx => (by cases hx), H6r.out, Nat.le_refl _, On.nil 5 _ _ _ _, H6b.out⟩
    case round =>
      obtain ⟨k, l, vn, hk, rfl, HLL, HA, HX, hR, hz6, hod, hB⟩ := hrel
      have hl2 : l.length ≤ 200 := by rw [HLL.out]; omega
      have HR0 : Hid (wr.heap[w.heap.size]? = some (.cells (ec nil5 (.slice none 0 0)) 28 (0, 0))) := rowKeep K0.out hB
      have HB : Hid (Below w.heap.size w wr) := KB.out.trans (hB.mono KB.out.size)
      have HSl : Hid (Sl wr (.slice aot ts.length capt) (ss ts)) := KS.out.later hB
      have HRe : Hid (wr.heap[w4.heap.size + 1]? = some (.cells (ec n vn) 28 (0, 0))) := hR
      have HOd : Hid (Od wr W6.heap.size wr.heap.size vn l) := hod
      have HBr : Hid (Below w4.heap.size w4 wr) := hB
      obtain ⟨aov, capv, rfl⟩ := hod.slice
      have h46 : w4.heap.size + 1 + 1 ≤ wr.heap.size := by rw [← H6s.out]; exact hz6
      clear hR hod hB
      by_cases hlt : k < ts.length
      · obtain ⟨t, ht⟩ : ∃ t, ts[k]? = some t := ⟨ts[k], by simp [hlt]⟩
        obtain ⟨b, off, hao, ct⟩ : ∃ b off, aot = some ⟨b, off, none⟩ ∧ wr.cell? ⟨b, off + k, none⟩ = some (.string t) := by
          obtain ⟨ao', c', he, _, _, hr⟩ := HSl.out
          simp only [Value.slice.injEq] at he
          obtain ⟨rfl, _, rfl⟩ := he
          obtain ⟨b, off, rfl, hcell⟩ := hr (by rw [ss_len]; omega)
          exact ⟨b, off, rfl, by rw [hcell k (by rw [ss_len]; exact hlt), ss_get, ht]; rfl⟩
        subst hao
        have htz := HG2.out t (List.mem_of_getElem? ht)
        have q7 : ∀ W, _ := fun W => pname_impl W t (by omega)
        have hxz := pname_size t
        have HT := needsOf_app (ts.take k) t
        rw [HA.out] at HT
        obtain ⟨x, gd, hx⟩ : ∃ x gd, pname t = (x, gd) := ⟨_, _, rfl⟩
        rw [hx] at HT hxz
        simp only [hx] at q7
        simp only at HT hxz
        have hT2 : ts.take (k + 1) = ts.take k ++ [t] := by rw [List.take_add_one, ht]; rfl
        rw [← hT2] at HT
        have HT' : Hid _ := HT
        have HD : Hid (ts = ts.take (k + 1) ++ ts.drop (k + 1)) := (List.take_append_drop _ _).symm
        clear hx ht HT hT2
        go_wp2_with fail
        refine (q7 _).mono ?_
        rintro e w7 ⟨rfl, b7⟩
        obtain ⟨W8, HW8, J0, JB, JR, JO, JBr, Jn, J6⟩ : ∃ W8, Hid (w7.alloc (.cells #[.string x.path, .int .i64 x.a, .int .i64 x.b, .int .i64 x.c, .string x.pre] 35) = W8) ∧ Hid (W8.heap[w.heap.size]? = some (.cells (ec nil5 (.slice none 0 0)) 28 (0, 0))) ∧ Hid (Below w.heap.size w W8) ∧ Hid (W8.heap[w4.heap.size + 1]? = some (.cells (ec n (.slice aov l.length capv)) 28 (0, 0))) ∧ Hid (Od W8 W6.heap.size W8.heap.size (.slice aov l.length capv) l) ∧ Hid (Below w4.heap.size w4 W8) ∧ Hid (Nr W8 w7.heap.size x) ∧ Hid (W6.heap.size ≤ W8.heap.size) := by
          have hc : Below wr.heap.size wr (w7.alloc (.cells #[.string x.path, .int .i64 x.a, .int .i64 x.b, .int .i64 x.c, .string x.pre] 35)) := b7.alloc b7.size _
          exact ⟨_, rfl, rowKeep HR0.out hc, HB.out.trans (hc.mono HB.out.size), rowKeep HRe.out hc, On.grow HOd.out hc, HBr.out.trans (hc.mono HBr.out.size), heap_alloc_new w7 _, Nat.le_trans hz6 hc.size⟩
        clear HR0 HB HSl HRe HOd HBr b7 q7 ct
        cases gd
        · have HN : Hid (get5 s = no5) := by
            show _ = _
            rw [HG'.out]
            unfold get5t
            rw [HD.out, needsOf_bad _ _ (by rw [HT'.out]; rfl)]
          clear HG' HD HT' HA HX
          go_wp2_with (first | (rw [HW8.out]; refine wpList_store_row rfl 28 _ _ rfl w.heap.size (ec nil5 (.slice none 0 0)) rfl rfl 28 _ J0.out (sizeE nil5 _) rfl (oneE nil5 (one_slice _ _ _)) ?_) | (refine wpList_store_row rfl 28 _ _ rfl w.heap.size (ec nil5 (.slice none 0 0)) rfl rfl 28 _ J0.out (sizeE nil5 _) rfl (oneE nil5 (one_slice _ _ _)) ?_))
          exact bodyPost_ret (results_row_tmp rfl _ _ w.heap.size 28 (ec nil5 (.slice none 0 0)) (0, 0) _ rfl (setRow_heap _ _ _ _ _ (0, 0) J0.out) Tryz.underlying28 rfl (sizeE nil5 _)) rfl ⟨nil5, none, 0, 0, _, rfl, Or.inr ⟨by rw [HN.out]; rfl, _, rfl⟩, fun h => (by rw [HN.out] at h; cases h), below_setRow JB.out (Nat.le_refl _) _⟩
        · have HN : Hid (needsOf (ts.take (k + 1)) = some (l ++ [x])) := by show _ = _; rw [HT'.out]; rfl
          have HX2 : Hid (∀ y ∈ l ++ [x], y.path.size ≤ s.size ∧ y.pre.size ≤ s.size) := by
            intro y hy
            rcases List.mem_append.1 hy with h | h
            · exact HX.out y h
            · simp at h; subst h; exact ⟨Nat.le_trans hxz.1 htz, Nat.le_trans hxz.2 htz⟩
          clear HD HT' HA HX
          obtain ⟨x0, x1, x2, x3, x4⟩ := Nr.cells Jn.out
          have k5 : W8.cell? ⟨w4.heap.size + 1, 5, none⟩ = some (.slice aov l.length capv) := row_cells JR.out 5
          rw [← HW8.out] at x0 x1 x2 x3 x4 k5
          have hz8 : W8.heap.size = w7.heap.size + 1 := by rw [← HW8.out]; simp
          have HO9 : Hid (On 5 ((w7.alloc (.cells #[.string x.path, .int .i64 x.a, .int .i64 x.b, .int .i64 x.c, .string x.pre] 35)).alloc (.cells #[.string x.path, .int .i64 x.a, .int .i64 x.b, .int .i64 x.c, .string x.pre] 35)) W6.heap.size ((w7.alloc (.cells #[.string x.path, .int .i64 x.a, .int .i64 x.b, .int .i64 x.c, .string x.pre] 35)).alloc (.cells #[.string x.path, .int .i64 x.a, .int .i64 x.b, .int .i64 x.c, .string x.pre] 35)).heap.size 35 (.slice aov l.length capv) l.length (nds l)) := by
            show On _ _ _ _ _ _ _ _
            rw [HW8.out]
            exact On.alloc JO.out _
          have HL9 : Hid (Sn 5 ((w7.alloc (.cells #[.string x.path, .int .i64 x.a, .int .i64 x.b, .int .i64 x.c, .string x.pre] 35)).alloc (.cells #[.string x.path, .int .i64 x.a, .int .i64 x.b, .int .i64 x.c, .string x.pre] 35)) (.slice (some ⟨w7.heap.size + 1, 0, none⟩) 1 1) 1 (nds [x])) := by
            have := Sn.one 5 (w7.alloc (.cells #[.string x.path, .int .i64 x.a, .int .i64 x.b, .int .i64 x.c, .string x.pre] 35)) #[.string x.path, .int .i64 x.a, .int .i64 x.b, .int .i64 x.c, .string x.pre] 35 rfl
            rw [World.size_alloc] at this
            exact this
          have HB9 : Hid (Below W8.heap.size W8 ((w7.alloc (.cells #[.string x.path, .int .i64 x.a, .int .i64 x.b, .int .i64 x.c, .string x.pre] 35)).alloc (.cells #[.string x.path, .int .i64 x.a, .int .i64 x.b, .int .i64 x.c, .string x.pre] 35))) := by
            show Below _ _ _
            rw [HW8.out]
            exact (Below.refl _ _).alloc (Nat.le_refl _) _
          have c2 : l.length + 1 ≤ maxLen := by unfold maxLen; omega
          have c3 : (l.length + 1) * 56 ≤ 140737488355328 := by omega
          have c4 : W6.heap.size ≤ ((w7.alloc (.cells #[.string x.path, .int .i64 x.a, .int .i64 x.b, .int .i64 x.c, .string x.pre] 35)).alloc (.cells #[.string x.path, .int .i64 x.a, .int .i64 x.b, .int .i64 x.c, .string x.pre] 35)).heap.size := Nat.le_trans J6.out HB9.out.size
          have h6lt : w4.heap.size + 1 < W6.heap.size := by rw [H6s.out]; omega
          clear hz8
          go_wp2_with (at_builtin; go_must (refine wpl_appn 5 (by omega) _ rfl (.tmp 80) (.tmp 82) 26 rfl 35 i0 (.agg #[.string ⟨#[]⟩, .int .i64 0, .int .i64 0, .int .i64 0, .string ⟨#[]⟩]) 56 Tryz.underlying26 hi hz0 hz1 hz2 rfl W6.heap.size (.slice aov l.length capv) l.length (nds l) rfl HO9.out (.slice (some ⟨w7.heap.size + 1, 0, none⟩) 1 1) rfl 1 (nds [x]) HL9.out (nds_one _) c2 c3 c4 ?_); intro v9 w9 ho9 hb9 hg9; obtain ⟨_, a9, cp9, rfl, _⟩ := On.sn ho9; have r9 : w9.heap[w4.heap.size + 1]? = some (.cells (ec n (.slice aov l.length capv)) 28 (0, 0)) := (hb9.block _ h6lt).trans (rowKeep JR.out HB9.out); have k9 : w9.cell? ⟨w4.heap.size + 1, 5, none⟩ = some (.slice aov l.length capv) := row_cells r9 5; have f9 : w9.frozen? ⟨w4.heap.size + 1, 5, none⟩ = false := frozen_of_row w9 _ 5 _ _ r9)
          have hb9' : Below w4.heap.size w4 w9 := (JBr.out.trans (HB9.out.mono JBr.out.size)).trans (hb9.mono (by have := H6s.out; omega))
          have R10 : (w9.setCell ⟨w4.heap.size + 1, 5, none⟩ (.slice a9 (l.length + 1) cp9)).heap[w4.heap.size + 1]? = some (.cells (ec n (.slice a9 (l.length + 1) cp9)) 28 (0, 0)) := by
            rw [heap_setCell_same w9 _ 5 _ _ _ r9]
            rfl
          have B10 : Below w4.heap.size w4 (w9.setCell ⟨w4.heap.size + 1, 5, none⟩ (.slice a9 (l.length + 1) cp9)) := hb9'.setCell (p := ⟨w4.heap.size + 1, 5, none⟩) (by show _ ≤ w4.heap.size + 1; omega) _
          have O10 : Od (w9.setCell ⟨w4.heap.size + 1, 5, none⟩ (.slice a9 (l.length + 1) cp9)) W6.heap.size (w9.setCell ⟨w4.heap.size + 1, 5, none⟩ (.slice a9 (l.length + 1) cp9)).heap.size (.slice a9 (l.length + 1) cp9) (l ++ [x]) := by
            unfold Od
            rw [nds_app, List.length_append]
            refine (On.keep (w := w9) (hi := w9.heap.size) ho9 fun j h1 h2 => heap_setCell_other w9 ⟨w4.heap.size + 1, 5, none⟩ j _ (by show j ≠ w4.heap.size + 1; omega)).mono (Nat.le_refl _) (by simp [World.setCell])
          have Z10 : W6.heap.size ≤ (w9.setCell ⟨w4.heap.size + 1, 5, none⟩ (.slice a9 (l.length + 1) cp9)).heap.size := by
            have := Nat.le_trans c4 hb9.size
            simp [World.setCell]
            exact this
          have L10 : Hid ((l ++ [x]).length = k + 1) := by show _ = _; rw [List.length_append, HLL.out]; rfl
          go_roundw
          case rel => exact ⟨k + 1, l ++ [x], _, by omega, by go_num, L10, HN, HX2, R10, Z10, O10, B10⟩
          case measure => simp [intOf]; omega
      · have HL : Hid (needsOf ts = some l) := by
          show _ = _
          have := HA.out
          rwa [List.take_of_length_le (by omega)] at this
        have q9 : ∀ W, Below wr.heap.size wr W → _ := fun W hW => check_impl W n (.slice aov l.length capv) l (Sd.later (Od.sd HOd.out) hW) (by omega) (by omega) (by omega) (fun y hy => by have := HX.out y hy; omega)
        have HG3 : Hid (get5 s = get5e n l) := by show _ = _; rw [HG'.out]; unfold get5t; rw [HL.out]
        clear HG' HL HA
        have e0 : wr.cell? ⟨w4.heap.size + 1, 0, none⟩ = some (.string n.path) := row_cells HRe.out 0
        have e1 : wr.cell? ⟨w4.heap.size + 1, 1, none⟩ = some (.int .i64 n.a) := row_cells HRe.out 1
        have e2 : wr.cell? ⟨w4.heap.size + 1, 2, none⟩ = some (.int .i64 n.b) := row_cells HRe.out 2
        have e3 : wr.cell? ⟨w4.heap.size + 1, 3, none⟩ = some (.int .i64 n.c) := row_cells HRe.out 3
        have e4 : wr.cell? ⟨w4.heap.size + 1, 4, none⟩ = some (.string n.pre) := row_cells HRe.out 4
        have e5 : wr.cell? ⟨w4.heap.size + 1, 5, none⟩ = some (.slice aov l.length capv) := row_cells HRe.out 5
        have hne : w4.heap.size + 1 ≠ w.heap.size := by have := KB.out.size; omega
        go_wp2_with fail
        refine wp_region_held_drew (S := fun w' => w'.cell? ⟨w4.heap.size + 1, 0, none⟩ = some (.string n.path) ∧ w'.cell? ⟨w4.heap.size + 1, 1, none⟩ = some (.int .i64 n.a) ∧ w'.cell? ⟨w4.heap.size + 1, 2, none⟩ = some (.int .i64 n.b) ∧ w'.cell? ⟨w4.heap.size + 1, 3, none⟩ = some (.int .i64 n.c) ∧ w'.cell? ⟨w4.heap.size + 1, 4, none⟩ = some (.string n.pre) ∧ w'.cell? ⟨w4.heap.size + 1, 5, none⟩ = some (.slice aov l.length capv)) (by kernel_rfl) ⟨e0, e1, e2, e3, e4, e5⟩ (fun hHeld => ?_)
        (refine wpAnyH_take (i := 0) (v := ?v0x1) rfl (by kernel_rfl) (by kernel_rfl) (by kernel_rfl) (fun _ _ _ h => h) (Or.inl ⟨by rfl, ?hy0x1⟩) (by assumption) ?rest0x1; case hy0x1 => (intro w hSw; (try dsimp only at hSw); go_split_ands; go_simp; (try with_reducible rfl)))
        try simp only [Act.put, List.setIfInBounds_toArray, List.set_cons_zero, List.set_cons_succ, List.getElem_toArray, List.getElem_cons_zero, List.getElem_cons_succ]
        (refine wpAnyH_take (i := 1) (v := ?v1x2) rfl (by kernel_rfl) (by kernel_rfl) (by kernel_rfl) (fun _ _ _ h => h) (Or.inl ⟨by rfl, ?hy1x2⟩) (by assumption) ?rest1x2; case hy1x2 => (intro w hSw; (try dsimp only at hSw); go_split_ands; go_simp; (try with_reducible rfl)))
        try simp only [Act.put, List.setIfInBounds_toArray, List.set_cons_zero, List.set_cons_succ, List.getElem_toArray, List.getElem_cons_zero, List.getElem_cons_succ]
        refine wpAnyH_ready (rs := [2]) (by kernel_rfl) (by simp) ?_
        refine AllReadyH.cons rfl (fun K hK => ?_) AllReadyH.nil
        go_simp
        refine (q9 _ (Below.drew (Below.refl _ _))).mono ?_
        rintro e w8 ⟨er, rfl, hEr, b8⟩
        refine hK.out _ _ ?_ (fun hHeld => ?_)
        · obtain ⟨s0, s1, s2, s3, s4, s5⟩ := hHeld; exact ⟨Ver.keepCell s0 b8, Ver.keepCell s1 b8, Ver.keepCell s2 b8, Ver.keepCell s3 b8, Ver.keepCell s4 b8, Ver.keepCell s5 b8⟩
        clear hK K
        try simp only [Act.put, List.setIfInBounds_toArray, List.set_cons_zero, List.set_cons_succ, List.getElem_toArray, List.getElem_cons_zero, List.getElem_cons_succ]
        have J0 : w8.heap[w.heap.size]? = some (.cells (ec nil5 (.slice none 0 0)) 28 (0, 0)) := rowKeep (w := wr.drew) HR0.out b8
        have JB : Below w.heap.size w w8 := (Below.drew HB.out).trans (b8.mono HB.out.size)
        have JO : Od w8 W6.heap.size w8.heap.size (.slice aov l.length capv) l := On.grow (w := wr.drew) HOd.out b8
        refine wpAnyH_ready (rs := [3]) (by kernel_rfl) (by simp) ?_
        refine AllReadyH.cons rfl (fun K hK => ?_) AllReadyH.nil
        rw [if_pos (by rfl)]
        refine wp_store_row 28 _ _ rfl w.heap.size (ec n (.slice aov l.length capv)) rfl rfl 28 _ J0 (sizeE n _) rfl (oneE n (one_slice _ _ _)) ?_
        refine hK.out _ _ ?_ (fun hHeld => ?_)
        · obtain ⟨s0, s1, s2, s3, s4, s5⟩ := hHeld; exact ⟨cellRow hne s0, cellRow hne s1, cellRow hne s2, cellRow hne s3, cellRow hne s4, cellRow hne s5⟩
        clear hK K
        try simp only [Act.put, List.setIfInBounds_toArray, List.set_cons_zero, List.set_cons_succ, List.getElem_toArray, List.getElem_cons_zero, List.getElem_cons_succ]
        (refine wpAnyH_take (i := 4) (v := ?v4x3) rfl (by kernel_rfl) (by kernel_rfl) (by kernel_rfl) (fun _ _ _ h => h) (Or.inl ⟨by rfl, ?hy4x3⟩) (by assumption) ?rest4x3; case hy4x3 => (intro w hSw; (try dsimp only at hSw); go_split_ands; go_simp; (try with_reducible rfl)))
        try simp only [Act.put, List.setIfInBounds_toArray, List.set_cons_zero, List.set_cons_succ, List.getElem_toArray, List.getElem_cons_zero, List.getElem_cons_succ]
        refine wpAnyH_done (by kernel_rfl) ?_ _
        clear hHeld
        have h6s := H6s.out
        have hkb := KB.out.size
        have HEr : Hid (Er er (get5 s).2.2) := by
          show Er _ _
          rw [HG3.out]
          unfold get5e
          cases hek : entry5 n l
          · rw [hek] at hEr; rw [if_neg (by simp)]; exact hEr
          · rw [hek] at hEr; rw [if_pos rfl]; exact hEr
        have HGo : Hid ((get5 s).2.2 = true → n = (get5 s).1 ∧ l = (get5 s).2.1) := by
          show _ → _
          rw [HG3.out]
          unfold get5e
          split
          · intro _; exact ⟨rfl, rfl⟩
          · intro h; cases h
        clear HG3 hEr
        go_wp2
        refine bodyPost_ret (results_row_tmp rfl _ _ w.heap.size 28 (ec n (.slice aov l.length capv)) (0, 0) _ rfl (setRow_heap _ _ _ _ _ (0, 0) J0) Tryz.underlying28 rfl (sizeE n _)) rfl ⟨n, aov, l.length, capv, er, rfl, HEr.out, fun h => ⟨(HGo.out h).1, ?_⟩, below_setRow JB (Nat.le_refl _) _⟩
        rw [← (HGo.out h).2]
        exact On.mono (lo := W6.heap.size) (hi := w8.heap.size) (Od.keep JO fun j h1 h2 => setRow_other _ _ _ _ (by omega)) (by omega) (by simp)
  · have dq : (q != (s.size : Int)) = true := by simpa using hq
    have HN : Hid (get5 s = no5) := by show _ = _; rw [HG.out, if_neg (by rintro ⟨_, _, _, h⟩; exact hq h)]
    clear HG hq
    go_wp2_with (refine wpList_store_row rfl 28 _ _ rfl w.heap.size (ec nil5 (.slice none 0 0)) rfl rfl 28 _ HR0a.out (sizeE nil5 _) rfl (oneE nil5 (one_slice _ _ _)) ?_)
    exact bodyPost_ret (results_row_tmp rfl _ _ w.heap.size 28 (ec nil5 (.slice none 0 0)) (0, 0) _ rfl (setRow_heap _ _ _ _ _ (0, 0) HR0a.out) Tryz.underlying28 rfl (sizeE nil5 _)) rfl ⟨nil5, none, 0, 0, _, rfl, Or.inr ⟨by rw [HN.out]; rfl, _, rfl⟩, fun h => (by rw [HN.out] at h; cases h), below_setRow HBa.out (Nat.le_refl _) _⟩

end Go.Proofs.YtljlcelbhlkmcabGreatDoor.Ent
