/- Texts in one: EfH. -/
import Derived.Test.YtljlcelbhlkmcabGreatDoorPk35
import Derived.Test.YtljlcelbhlkmcabGreatDoorPk19
import Derived.WideMake
import Derived.MapKept
/- Chapter 5, the landed code: an entry put into a table and looked up. -/
namespace Go.Proofs.YtljlcelbhlkmcabGreatDoor.Ent
open Go.RowKit Go.Proofs.YtljlcelbhlkmcabGreatDoor.Mem Go.Proofs.YtljlcelbhlkmcabGreatDoor.Laws Go.Proofs.YtljlcelbhlkmcabGreatDoor.Bytes Go.Proofs.YtljlcelbhlkmcabGreatDoor.Sha Go.Proofs.YtljlcelbhlkmcabGreatDoor.Ver Go.Proofs.YtljlcelbhlkmcabGreatDoor.Mod
set_option linter.unusedVariables false
set_option linter.unusedSimpArgs false

theorem chkN (e : Bool) (w : World) (n : Nd) : (Instr.checkKey e 10000 35 (.agg #[.string n.path, .int .i64 n.a, .int .i64 n.b, .int .i64 n.c, .string n.pre])).run Tryz.prog w = .ok () w := by
  cases e <;> kernel_rfl
theorem mapT : Tryz.prog.underlying 55 = some (.map 35 28) := by kernel_rfl
/-- the first entry of a table -/
theorem upd_first (w : World) (r : Nat) (n : Nd) (v : Value) (hb : w.heap[r]? = some (.map #[] 0)) :
    (Instr.mapUpdate 55 (.map (some r)) (.agg #[.string n.path, .int .i64 n.a, .int .i64 n.b, .int .i64 n.c, .string n.pre]) v).run Tryz.prog w = .ok () { w with heap := w.heap.setIfInBounds r (.map #[{ key := .agg #[.string n.path, .int .i64 n.a, .int .i64 n.b, .int .i64 n.c, .string n.pre], val := v, born := 0 }] 1) } := by
  have hf : Instr.findNow (.struct (Tryz.prog.fieldsOf 35)) (.agg #[.string n.path, .int .i64 n.a, .int .i64 n.b, .int .i64 n.c, .string n.pre]) ([] : List MapEntry) 0 = some none := rfl
  simp [Instr.mapUpdate, run_underlying mapT, MapKept.run_getObj_map hb, chkN, MapKept.run_findKey fieldsN hf, MapKept.run_setObj_map _ hb, Result.andThen]
theorem look_one (w : World) (r : Nat) (n : Nd) (v : Value) (hb : w.heap[r]? = some (.map #[{ key := .agg #[.string n.path, .int .i64 n.a, .int .i64 n.b, .int .i64 n.c, .string n.pre], val := v, born := 0 }] 1)) :
    (Instr.lookup 55 (.map (some r)) (.agg #[.string n.path, .int .i64 n.a, .int .i64 n.b, .int .i64 n.c, .string n.pre]) false).run Tryz.prog w = .ok v w := by
  have hf : Instr.findNow (.struct (Tryz.prog.fieldsOf 35)) (.agg #[.string n.path, .int .i64 n.a, .int .i64 n.b, .int .i64 n.c, .string n.pre]) [{ key := .agg #[.string n.path, .int .i64 n.a, .int .i64 n.b, .int .i64 n.c, .string n.pre], val := v, born := 0 }] 0 = none := rfl
  have he : (Op.equal 35 (.agg #[.string n.path, .int .i64 n.a, .int .i64 n.b, .int .i64 n.c, .string n.pre]) (.agg #[.string n.path, .int .i64 n.a, .int .i64 n.b, .int .i64 n.c, .string n.pre])).run Tryz.prog w = .ok true w := eqNs w n.path n.a n.b n.c n.pre
  have hk : (Instr.findKey 35 (.agg #[.string n.path, .int .i64 n.a, .int .i64 n.b, .int .i64 n.c, .string n.pre]) [{ key := .agg #[.string n.path, .int .i64 n.a, .int .i64 n.b, .int .i64 n.c, .string n.pre], val := v, born := 0 }]).run Tryz.prog w = .ok (some (0, v)) w := by
    simp [Instr.findKey, run_underlying fieldsN, Result.andThen, hf, Instr.findAsking, he]
  simp [Instr.lookup, run_underlying mapT, MapKept.run_getObj_map hb, chkN, hk, Result.andThen]

theorem get5_no {s : ByteArray} (h : (get5 s).2.2 = false) : get5 s = no5 := by
  unfold get5 at h ⊢
  split
  · rename_i hc
    rw [if_pos hc] at h
    unfold get5t at h ⊢
    split
    · rename_i l hl
      rw [hl] at h
      simp only at h
      unfold get5e at h ⊢
      split
      · rename_i he
        rw [if_pos he] at h
        cases h
      · rfl
    · rfl
  · rfl
/-- how an answer of read is told: a key and an error, and what the table then holds -/
def Rk (s : ByteArray) (r : Nat) (w : World) (e : Ending) (w' : World) : Prop :=
  ∃ (n : Nd) (er : Value), e = .returned (.tuple #[.agg #[.string n.path, .int .i64 n.a, .int .i64 n.b, .int .i64 n.c, .string n.pre], er]) ∧ Er er (get5 s).2.2 ∧ ((get5 s).2.2 = true → n = (get5 s).1 ∧ ∃ ao m cap, w'.heap[r]? = some (.map #[{ key := .agg #[.string n.path, .int .i64 n.a, .int .i64 n.b, .int .i64 n.c, .string n.pre], val := .agg #[.string n.path, .int .i64 n.a, .int .i64 n.b, .int .i64 n.c, .string n.pre, .slice ao m cap], born := 0 }] 1) ∧ Od w' w.heap.size w'.heap.size (.slice ao m cap) (get5 s).2.1) ∧ Below r w w'

set_option maxRecDepth 1000000 in
set_option maxHeartbeats 4000000 in
theorem read_impl (w : World) (r : Nat) (s : ByteArray) (hs : s.size ≤ 1048576) (hr : w.heap[r]? = some (.map #[] 0)) : Calls Tryz.prog 28 #[.map (some r), .string s] w fun e w' => Rk s r w e w' := by
  have hrl : r < w.heap.size := (Array.getElem?_eq_some_iff.1 hr).1
  have HR : Hid (Nr (w.alloc (.cells #[.string ⟨#[]⟩, .int .i64 0, .int .i64 0, .int .i64 0, .string ⟨#[]⟩] 35)) w.heap.size nil5) := heap_alloc_new w _
  have HB : Hid (Below w.heap.size w (w.alloc (.cells #[.string ⟨#[]⟩, .int .i64 0, .int .i64 0, .int .i64 0, .string ⟨#[]⟩] 35))) := (Below.refl _ _).alloc (Nat.le_refl _) _
  have HM : Hid ((w.alloc (.cells #[.string ⟨#[]⟩, .int .i64 0, .int .i64 0, .int .i64 0, .string ⟨#[]⟩] 35)).heap[r]? = some (.map #[] 0)) := rowStay5 hr HB.out
  have q1 := rd_impl (w.alloc (.cells #[.string ⟨#[]⟩, .int .i64 0, .int .i64 0, .int .i64 0, .string ⟨#[]⟩] 35)) s hs
  unfold Rd at q1
  clear hr
  go_enter Tryz.func28, Tryz.ntmps28
  go_wp2_with fail
  refine q1.mono ?_
  rintro e w2 ⟨n, ao, m, cap, er, rfl, hEr, hGo, b2⟩
  have R2 : Nr w2 w.heap.size nil5 := rowStay5 HR.out b2
  have M2 : w2.heap[r]? = some (.map #[] 0) := rowStay5 HM.out b2
  have B2 : Below w.heap.size w w2 := HB.out.trans (b2.mono HB.out.size)
  have hl2 : w.heap.size < w2.heap.size := (Array.getElem?_eq_some_iff.1 R2).1
  clear q1 HR HB HM b2
  have HR3 : Hid (Nr (w2.alloc (.cells #[.string n.path, .int .i64 n.a, .int .i64 n.b, .int .i64 n.c, .string n.pre, .slice ao m cap] 28)) w.heap.size nil5) := rowStay5 R2 ((Below.refl _ _).alloc (Nat.le_refl _) _)
  have HB3 : Hid (Below w.heap.size w (w2.alloc (.cells #[.string n.path, .int .i64 n.a, .int .i64 n.b, .int .i64 n.c, .string n.pre, .slice ao m cap] 28))) := B2.alloc B2.size _
  have HE3 : Hid ((w2.alloc (.cells #[.string n.path, .int .i64 n.a, .int .i64 n.b, .int .i64 n.c, .string n.pre, .slice ao m cap] 28)).heap[w2.heap.size]? = some (.cells (ec n (.slice ao m cap)) 28 (0, 0))) := heap_alloc_new w2 _
  rcases hEr with ⟨hok, rfl⟩ | ⟨hok, x, rfl⟩
  · obtain ⟨rfl, hOd⟩ := hGo hok
    have HOK : Hid ((get5 s).2.2 = true) := hok
    obtain ⟨n, hn⟩ : ∃ n, (get5 s).1 = n := ⟨_, rfl⟩
    obtain ⟨l, hl⟩ : ∃ l, (get5 s).2.1 = l := ⟨_, rfl⟩
    rw [hn] at HR3 HB3 HE3
    rw [hl] at hOd
    have HN : Hid ((get5 s).1 = n) := hn
    have HL : Hid ((get5 s).2.1 = l) := hl
    rw [hn]
    clear hn hl hok hGo
    have k0 : (w2.alloc (.cells #[.string n.path, .int .i64 n.a, .int .i64 n.b, .int .i64 n.c, .string n.pre, .slice ao m cap] 28)).cell? ⟨w2.heap.size, 0, none⟩ = some (.string n.path) := row_cells HE3.out 0
    have k1 : (w2.alloc (.cells #[.string n.path, .int .i64 n.a, .int .i64 n.b, .int .i64 n.c, .string n.pre, .slice ao m cap] 28)).cell? ⟨w2.heap.size, 1, none⟩ = some (.int .i64 n.a) := row_cells HE3.out 1
    have k2 : (w2.alloc (.cells #[.string n.path, .int .i64 n.a, .int .i64 n.b, .int .i64 n.c, .string n.pre, .slice ao m cap] 28)).cell? ⟨w2.heap.size, 2, none⟩ = some (.int .i64 n.b) := row_cells HE3.out 2
    have k3 : (w2.alloc (.cells #[.string n.path, .int .i64 n.a, .int .i64 n.b, .int .i64 n.c, .string n.pre, .slice ao m cap] 28)).cell? ⟨w2.heap.size, 3, none⟩ = some (.int .i64 n.c) := row_cells HE3.out 3
    have k4 : (w2.alloc (.cells #[.string n.path, .int .i64 n.a, .int .i64 n.b, .int .i64 n.c, .string n.pre, .slice ao m cap] 28)).cell? ⟨w2.heap.size, 4, none⟩ = some (.string n.pre) := row_cells HE3.out 4
    have HR4 : Hid (Nr ((w2.alloc (.cells #[.string n.path, .int .i64 n.a, .int .i64 n.b, .int .i64 n.c, .string n.pre, .slice ao m cap] 28)).alloc (.cells #[.string n.path, .int .i64 n.a, .int .i64 n.b, .int .i64 n.c, .string n.pre] 35)) w.heap.size nil5) := rowStay5 HR3.out ((Below.refl _ _).alloc (Nat.le_refl _) _)
    have HB4 : Hid (Below w.heap.size w ((w2.alloc (.cells #[.string n.path, .int .i64 n.a, .int .i64 n.b, .int .i64 n.c, .string n.pre, .slice ao m cap] 28)).alloc (.cells #[.string n.path, .int .i64 n.a, .int .i64 n.b, .int .i64 n.c, .string n.pre] 35))) := HB3.out.alloc HB3.out.size _
    have HE4 : Hid (((w2.alloc (.cells #[.string n.path, .int .i64 n.a, .int .i64 n.b, .int .i64 n.c, .string n.pre, .slice ao m cap] 28)).alloc (.cells #[.string n.path, .int .i64 n.a, .int .i64 n.b, .int .i64 n.c, .string n.pre] 35)).heap[w2.heap.size]? = some (.cells (ec n (.slice ao m cap)) 28 (0, 0))) := rowStay5 HE3.out ((Below.refl _ _).alloc (Nat.le_refl _) _)
    have HN4 : Hid (Nr ((w2.alloc (.cells #[.string n.path, .int .i64 n.a, .int .i64 n.b, .int .i64 n.c, .string n.pre, .slice ao m cap] 28)).alloc (.cells #[.string n.path, .int .i64 n.a, .int .i64 n.b, .int .i64 n.c, .string n.pre] 35)) (w2.heap.size + 1) n) := by
      have := heap_alloc_new (w2.alloc (.cells #[.string n.path, .int .i64 n.a, .int .i64 n.b, .int .i64 n.c, .string n.pre, .slice ao m cap] 28)) (.cells #[.string n.path, .int .i64 n.a, .int .i64 n.b, .int .i64 n.c, .string n.pre] 35)
      rw [World.size_alloc] at this
      exact this
    have M4 : ((w2.alloc (.cells #[.string n.path, .int .i64 n.a, .int .i64 n.b, .int .i64 n.c, .string n.pre, .slice ao m cap] 28)).alloc (.cells #[.string n.path, .int .i64 n.a, .int .i64 n.b, .int .i64 n.c, .string n.pre] 35)).heap[r]? = some (.map #[] 0) := rowStay5 (rowStay5 M2 ((Below.refl _ _).alloc (Nat.le_refl _) (.cells #[.string n.path, .int .i64 n.a, .int .i64 n.b, .int .i64 n.c, .string n.pre, .slice ao m cap] 28))) ((Below.refl _ _).alloc (Nat.le_refl _) _)
    have O4 : Od ((w2.alloc (.cells #[.string n.path, .int .i64 n.a, .int .i64 n.b, .int .i64 n.c, .string n.pre, .slice ao m cap] 28)).alloc (.cells #[.string n.path, .int .i64 n.a, .int .i64 n.b, .int .i64 n.c, .string n.pre] 35)) (w.alloc (.cells #[.string ⟨#[]⟩, .int .i64 0, .int .i64 0, .int .i64 0, .string ⟨#[]⟩] 35)).heap.size ((w2.alloc (.cells #[.string n.path, .int .i64 n.a, .int .i64 n.b, .int .i64 n.c, .string n.pre, .slice ao m cap] 28)).alloc (.cells #[.string n.path, .int .i64 n.a, .int .i64 n.b, .int .i64 n.c, .string n.pre] 35)).heap.size (.slice ao m cap) l := On.alloc (On.alloc hOd _) _
    have hU := upd_first ((w2.alloc (.cells #[.string n.path, .int .i64 n.a, .int .i64 n.b, .int .i64 n.c, .string n.pre, .slice ao m cap] 28)).alloc (.cells #[.string n.path, .int .i64 n.a, .int .i64 n.b, .int .i64 n.c, .string n.pre] 35)) r n (.agg #[.string n.path, .int .i64 n.a, .int .i64 n.b, .int .i64 n.c, .string n.pre, .slice ao m cap]) M4
    obtain ⟨W5, hW5⟩ : ∃ W5, { (w2.alloc (.cells #[.string n.path, .int .i64 n.a, .int .i64 n.b, .int .i64 n.c, .string n.pre, .slice ao m cap] 28)).alloc (.cells #[.string n.path, .int .i64 n.a, .int .i64 n.b, .int .i64 n.c, .string n.pre] 35) with heap := ((w2.alloc (.cells #[.string n.path, .int .i64 n.a, .int .i64 n.b, .int .i64 n.c, .string n.pre, .slice ao m cap] 28)).alloc (.cells #[.string n.path, .int .i64 n.a, .int .i64 n.b, .int .i64 n.c, .string n.pre] 35)).heap.setIfInBounds r (.map #[{ key := .agg #[.string n.path, .int .i64 n.a, .int .i64 n.b, .int .i64 n.c, .string n.pre], val := .agg #[.string n.path, .int .i64 n.a, .int .i64 n.b, .int .i64 n.c, .string n.pre, .slice ao m cap], born := 0 }] 1) } = W5 := ⟨_, rfl⟩
    have hS := MapKept.heap_set (o' := .map #[{ key := .agg #[.string n.path, .int .i64 n.a, .int .i64 n.b, .int .i64 n.c, .string n.pre], val := .agg #[.string n.path, .int .i64 n.a, .int .i64 n.b, .int .i64 n.c, .string n.pre, .slice ao m cap], born := 0 }] 1) M4
    have hother : ∀ k, k ≠ r → W5.heap[k]? = ((w2.alloc (.cells #[.string n.path, .int .i64 n.a, .int .i64 n.b, .int .i64 n.c, .string n.pre, .slice ao m cap] 28)).alloc (.cells #[.string n.path, .int .i64 n.a, .int .i64 n.b, .int .i64 n.c, .string n.pre] 35)).heap[k]? := fun k hk => by rw [← hW5]; exact hS.2 k hk
    have M5 : W5.heap[r]? = some (.map #[{ key := .agg #[.string n.path, .int .i64 n.a, .int .i64 n.b, .int .i64 n.c, .string n.pre], val := .agg #[.string n.path, .int .i64 n.a, .int .i64 n.b, .int .i64 n.c, .string n.pre, .slice ao m cap], born := 0 }] 1) := by rw [← hW5]; exact hS.1
    have hz5 : W5.heap.size = w2.heap.size + 1 + 1 := by rw [← hW5]; simp
    have b5 : Below r ((w2.alloc (.cells #[.string n.path, .int .i64 n.a, .int .i64 n.b, .int .i64 n.c, .string n.pre, .slice ao m cap] 28)).alloc (.cells #[.string n.path, .int .i64 n.a, .int .i64 n.b, .int .i64 n.c, .string n.pre] 35)) W5 := ⟨by rw [← hW5], by rw [← hW5], by rw [← hW5], by rw [hz5]; simp, fun k hk => hother k (by omega)⟩
    rw [hW5] at hU
    have hU' : (Instr.mapUpdate 55 (.map (some r)) (.agg (nc5 n)) (.agg (ec n (.slice ao m cap)))).run Tryz.prog ((w2.alloc (.cells #[.string n.path, .int .i64 n.a, .int .i64 n.b, .int .i64 n.c, .string n.pre, .slice ao m cap] 28)).alloc (.cells #[.string n.path, .int .i64 n.a, .int .i64 n.b, .int .i64 n.c, .string n.pre] 35)) = .ok () W5 := hU
    clear hU
    have HR5 : Hid (Nr W5 w.heap.size nil5) := (hother _ (by omega)).trans HR4.out
    have HN5 : Hid (Nr W5 (w2.heap.size + 1) n) := (hother _ (by omega)).trans HN4.out
    have HB5 : Hid (Below r w W5) := (HB4.out.mono (by omega)).trans b5
    have HO5 : Hid (Od W5 (w.alloc (.cells #[.string ⟨#[]⟩, .int .i64 0, .int .i64 0, .int .i64 0, .string ⟨#[]⟩] 35)).heap.size W5.heap.size (.slice ao m cap) l) := On.mono (On.keep O4 fun j h1 h2 => hother j (by simp at h1; omega)) (Nat.le_refl _) (by rw [hz5]; simp)
    have HM5 : Hid _ := M5
    clear hS hother hW5 b5 M4 O4 HB4 HR3 HB3 HE3 M2 B2 R2 hOd M5 HR4
    go_wp2_with (first | (refine wpList_load_row rfl 35 _ rfl (w2.heap.size + 1) rfl 35 (nc5 n) (0, 0) _ HN5.out Tryz.underlying35 rfl (sizeN5 n) ?_) | (refine wpList_load_row rfl 35 _ rfl (w2.heap.size + 1) rfl 35 (nc5 n) (0, 0) _ HN4.out Tryz.underlying35 rfl (sizeN5 n) ?_) | (refine wpList_load_row rfl 28 _ rfl w2.heap.size rfl 28 (ec n (.slice ao m cap)) (0, 0) _ HE4.out Tryz.underlying28 rfl (sizeE n _) ?_) | (refine wpList_store_row rfl 35 _ _ rfl w.heap.size (nc5 n) rfl rfl 35 _ HR5.out (sizeN5 n) rfl (oneN5 n) ?_))
    refine bodyPost_ret (results_row_tmp rfl _ _ w.heap.size 35 (nc5 n) (0, 0) _ rfl (setRow_heap _ _ _ _ _ (0, 0) HR5.out) Tryz.underlying35 rfl (sizeN5 n)) rfl ⟨n, .nilIface, rfl, Or.inl ⟨HOK.out, rfl⟩, fun _ => ⟨HN.out.symm, ao, m, cap, ?_, ?_⟩, below_setRow HB5.out (by omega) _⟩
    · rw [setRow_other _ _ _ _ (by omega)]; exact HM5.out
    · rw [HL.out]
      exact On.mono (lo := (w.alloc (.cells #[.string ⟨#[]⟩, .int .i64 0, .int .i64 0, .int .i64 0, .string ⟨#[]⟩] 35)).heap.size) (hi := W5.heap.size) (Od.keep HO5.out fun j h1 h2 => setRow_other _ _ _ _ (by simp at h1; omega)) (by simp) (by simp)
  · have HF : Hid ((get5 s).2.2 = false) := hok
    clear hGo hok
    go_wp2_with (refine wpList_store_row rfl 35 _ _ rfl w.heap.size (nc5 nil5) rfl rfl 35 _ HR3.out (sizeN5 nil5) rfl (oneN5 nil5) ?_)
    exact bodyPost_ret (results_row_tmp rfl _ _ w.heap.size 35 (nc5 nil5) (0, 0) _ rfl (setRow_heap _ _ _ _ _ (0, 0) HR3.out) Tryz.underlying35 rfl (sizeN5 nil5)) rfl ⟨nil5, _, rfl, Or.inr ⟨HF.out, x, rfl⟩, fun h => (by rw [HF.out] at h; cases h), below_setRow (HB3.out.mono (by omega)) (by omega) _⟩

set_option maxRecDepth 1000000 in
set_option maxHeartbeats 4000000 in
theorem get_impl5 (w : World) (hg : As.Hand w) (s : ByteArray) (hs : s.size ≤ 1048576) : Calls Tryz.prog 10 #[.string s] w fun e w' => Got s w e w' := by
  have HR : Hid (((w.alloc (.cells #[.string ⟨#[]⟩, .int .i64 0, .int .i64 0, .int .i64 0, .string ⟨#[]⟩, .slice none 0 0] 28)).alloc (.map #[] 0)).heap[w.heap.size]? = some (.cells (ec nil5 (.slice none 0 0)) 28 (0, 0))) := heap_alloc2_old w _ _
  have HB : Hid (Below w.heap.size w ((w.alloc (.cells #[.string ⟨#[]⟩, .int .i64 0, .int .i64 0, .int .i64 0, .string ⟨#[]⟩, .slice none 0 0] 28)).alloc (.map #[] 0))) := ((Below.refl _ _).alloc (Nat.le_refl _) _).alloc (by simp) _
  have hM : ((w.alloc (.cells #[.string ⟨#[]⟩, .int .i64 0, .int .i64 0, .int .i64 0, .string ⟨#[]⟩, .slice none 0 0] 28)).alloc (.map #[] 0)).heap[w.heap.size + 1]? = some (.map #[] 0) := heap_alloc2_new w _ _
  have hmk := run_makeMap_plain (P := Tryz.prog) (w.alloc (.cells #[.string ⟨#[]⟩, .int .i64 0, .int .i64 0, .int .i64 0, .string ⟨#[]⟩, .slice none 0 0] 28)) 55
  rw [World.size_alloc] at hmk
  have q1 := read_impl ((w.alloc (.cells #[.string ⟨#[]⟩, .int .i64 0, .int .i64 0, .int .i64 0, .string ⟨#[]⟩, .slice none 0 0] 28)).alloc (.map #[] 0)) (w.heap.size + 1) s hs hM
  unfold Rk at q1
  have HG : Hid (As.Hand w) := hg
  clear hg hM
  go_enter Tryz.func10, Tryz.ntmps10
  go_wp2_with fail
  refine q1.mono ?_
  rintro e w2 ⟨n, er, rfl, hEr, hGo, b2⟩
  have R2 : w2.heap[w.heap.size]? = some (.cells (ec nil5 (.slice none 0 0)) 28 (0, 0)) := (b2.block _ (by omega)).trans HR.out
  have B2 : Below w.heap.size w w2 := HB.out.trans (b2.mono (by omega))
  have hl2 : w.heap.size + 1 + 1 ≤ w2.heap.size := by have := b2.size; simp at this; omega
  have hB3 : Below w.heap.size w (w2.alloc (.cells #[.string n.path, .int .i64 n.a, .int .i64 n.b, .int .i64 n.c, .string n.pre] 35)) := B2.alloc B2.size _
  have R3 : (w2.alloc (.cells #[.string n.path, .int .i64 n.a, .int .i64 n.b, .int .i64 n.c, .string n.pre] 35)).heap[w.heap.size]? = some (.cells (ec nil5 (.slice none 0 0)) 28 (0, 0)) := rowKeep R2 ((Below.refl _ _).alloc (Nat.le_refl _) _)
  have N3 : Nr (w2.alloc (.cells #[.string n.path, .int .i64 n.a, .int .i64 n.b, .int .i64 n.c, .string n.pre] 35)) w2.heap.size n := heap_alloc_new w2 _
  have HR3 : Hid _ := R3
  have HB3 : Hid _ := hB3
  have HN3 : Hid _ := N3
  have q2 := no_er (w2.alloc (.cells #[.string n.path, .int .i64 n.a, .int .i64 n.b, .int .i64 n.c, .string n.pre] 35)) er (get5 s).2.2 (As.Hand.later HG.out hB3) hEr
  obtain ⟨ok, hok⟩ : ∃ ok, (get5 s).2.2 = ok := ⟨_, rfl⟩
  rw [hok] at q2 hGo
  have HOK : Hid ((get5 s).2.2 = ok) := hok
  have HGo : Hid _ := hGo
  clear hGo hok q1 hmk HR HB hEr b2 R2 hB3 R3 N3
  go_wp2_with fail
  refine q2.mono ?_
  rintro e w4 ⟨rfl, b4⟩
  have R4 := rowKeep HR3.out b4
  have B4 : Below w.heap.size w w4 := HB3.out.trans (b4.mono HB3.out.size)
  have N4 : Nr w4 w2.heap.size n := rowStay5 HN3.out b4
  cases ok
  · have HN : Hid (get5 s = no5) := get5_no HOK.out
    clear HGo HOK q2 HR3 HB3 HN3 N4
    go_wp2_with (refine wpList_store_row rfl 28 _ _ rfl w.heap.size (ec nil5 (.slice none 0 0)) rfl rfl 28 _ R4 (sizeE nil5 _) rfl (oneE nil5 (one_slice _ _ _)) ?_)
    exact bodyPost_ret (results_row_tmp rfl _ _ w.heap.size 28 (ec nil5 (.slice none 0 0)) (0, 0) _ rfl (setRow_heap _ _ _ _ _ (0, 0) R4) Tryz.underlying28 rfl (sizeE nil5 _)) rfl ⟨.slice none 0 0, by rw [HN.out]; rfl, by rw [HN.out]; exact On.nil 5 _ _ _ _, below_setRow B4 (Nat.le_refl _) _⟩
  · obtain ⟨hn, ao, m, cap, hM, hOd⟩ := HGo.out rfl
    have M4 : w4.heap[w.heap.size + 1]? = some (.map #[{ key := .agg #[.string n.path, .int .i64 n.a, .int .i64 n.b, .int .i64 n.c, .string n.pre], val := .agg #[.string n.path, .int .i64 n.a, .int .i64 n.b, .int .i64 n.c, .string n.pre, .slice ao m cap], born := 0 }] 1) := rowKeep (rowKeep hM ((Below.refl _ _).alloc (Nat.le_refl _) _)) b4
    have hL : (Instr.lookup 55 (.map (some (w.heap.size + 1))) (.agg (nc5 n)) false).run Tryz.prog w4 = .ok (.agg (ec n (.slice ao m cap))) w4 := look_one w4 (w.heap.size + 1) n (.agg #[.string n.path, .int .i64 n.a, .int .i64 n.b, .int .i64 n.c, .string n.pre, .slice ao m cap]) M4
    have O4 : Od w4 ((w.alloc (.cells #[.string ⟨#[]⟩, .int .i64 0, .int .i64 0, .int .i64 0, .string ⟨#[]⟩, .slice none 0 0] 28)).alloc (.map #[] 0)).heap.size w4.heap.size (.slice ao m cap) (get5 s).2.1 := On.grow (On.alloc hOd _) b4
    have HO4 : Hid _ := O4
    have HN : Hid (n = (get5 s).1) := hn
    clear HGo hn hM hOd q2 HR3 HB3 HN3 b4 M4 O4
    go_wp2_with (first | (refine wpList_load_row rfl 35 _ rfl w2.heap.size rfl 35 (nc5 n) (0, 0) _ N4 Tryz.underlying35 rfl (sizeN5 n) ?_) | (refine wpList_store_row rfl 28 _ _ rfl w.heap.size (ec n (.slice ao m cap)) rfl rfl 28 _ R4 (sizeE n _) rfl (oneE n (one_slice _ _ _)) ?_))
    refine bodyPost_ret (results_row_tmp rfl _ _ w.heap.size 28 (ec n (.slice ao m cap)) (0, 0) _ rfl (setRow_heap _ _ _ _ _ (0, 0) R4) Tryz.underlying28 rfl (sizeE n _)) rfl ⟨.slice ao m cap, by rw [HOK.out, ← HN.out]; rfl, ?_, below_setRow B4 (Nat.le_refl _) _⟩
    exact On.mono (lo := ((w.alloc (.cells #[.string ⟨#[]⟩, .int .i64 0, .int .i64 0, .int .i64 0, .string ⟨#[]⟩, .slice none 0 0] 28)).alloc (.map #[] 0)).heap.size) (hi := w4.heap.size) (Od.keep HO4.out fun j h1 h2 => setRow_other _ _ _ _ (by simp at h1; omega)) (by simp; omega) (by simp)

end Go.Proofs.YtljlcelbhlkmcabGreatDoor.Ent
