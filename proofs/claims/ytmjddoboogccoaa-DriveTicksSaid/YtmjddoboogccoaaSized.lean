/- The size of a slice in a struct that came in. No function is named here. -/
import Derived.OpenShut
import Derived.SizedLaws
namespace Go.Proofs.Ytmjddoboogccoaa
open Go.RowKit Go.ChangeShapes Go.WideShapes

/-- A slice in a struct that came in lies within the form's reach. -/
theorem sized_field {H : Type} {P : Program} {ts : List TypeId} {ds : List (DataW H)} (h : (DataW.weightsEach P ts ds).all (· ≤ reachBytes) = true) {j m : Nat} {t ft e : TypeId} {fs : Array Field} {parts elems spare : List (DataW H)}
    (ht : ts[j]? = some t) (hd : ds[j]? = some (.agg parts)) (hu : P.underlying t = some (.struct fs)) (hf : (fs.toList.map (·.type))[m]? = some ft) (hp : parts[m]? = some (.slice elems spare)) (he : P.underlying ft = some (.slice e)) :
    (elems.length + spare.length) * P.bytesOf e ≤ reachBytes := by
  have := List.all_eq_true.1 h _ (DataW.weights_mem_each ht hd ((elems.length + spare.length) * P.bytesOf e) (by
    simp only [DataW.weights, hu]
    exact DataW.weights_mem_each hf hp _ (by simp [DataW.weights, he])))
  simpa using this
end Go.Proofs.Ytmjddoboogccoaa
