package shape

import "longshore/api"

// kindRow is a descriptor's number and name; a composite also has what makes the table of its fields.
type kindRow struct {
	number int
	name   string
	fields func() []api.Field
}

func kinds() []kindRow {
	return []kindRow{
		{api.KOpen, "longshore:open:list", openFields},
		{api.KBegin, "longshore:begin:list", beginFields},
		{api.KAttach, "longshore:attach:list", attachFields},
		{api.KFlow, "longshore:flow:list", flowFields},
		{api.KTransfer, "longshore:transfer:list", transferFields},
		{api.KDisposition, "longshore:disposition:list", dispositionFields},
		{api.KDetach, "longshore:detach:list", detachFields},
		{api.KEnd, "longshore:end:list", onlyFault},
		{api.KClose, "longshore:close:list", onlyFault},
		{api.KFault, "longshore:fault:list", faultFields},
		{api.KReceived, "longshore:received:list", receivedFields},
		{api.KAccepted, "longshore:accepted:list", noFields},
		{api.KRejected, "longshore:rejected:list", onlyFault},
		{api.KReleased, "longshore:released:list", noFields},
		{api.KModified, "longshore:modified:list", modifiedFields},
		{api.KSource, "longshore:source:list", sourceFields},
		{api.KTarget, "longshore:target:list", targetFields},
		{api.KCoordinator, "longshore:coordinator:list", coordinatorFields},
		{api.KDeclare, "longshore:declare:list", noFields},
		{api.KDischarge, "longshore:discharge:list", dischargeFields},
		{api.KDeclared, "longshore:declared:list", declaredFields},
		{api.KTransactional, "longshore:transactional:list", transactionalFields},
		{api.KMechanisms, "longshore:mechanisms:list", mechanismsFields},
		{api.KInit, "longshore:init:list", initFields},
		{api.KChallenge, "longshore:challenge:list", challengeFields},
		{api.KResponse, "longshore:response:list", responseFields},
		{api.KOutcome, "longshore:outcome:list", outcomeFields},
		{api.KHeader, "longshore:header:list", headerFields},
		{api.KProperties, "longshore:properties:list", propertiesFields},
		{api.KDeliveryAnn, "longshore:delivery-annotations:map", nil},
		{api.KMessageAnn, "longshore:message-annotations:map", nil},
		{api.KApplication, "longshore:application-properties:map", nil},
		{api.KFooter, "longshore:footer:map", nil},
		{api.KData, "longshore:data:binary", nil},
		{api.KSequence, "longshore:sequence:list", nil},
		{api.KBody, "longshore:value:any", nil},
	}
}

func outcomes() []int {
	return []int{api.KAccepted, api.KRejected, api.KReleased, api.KModified}
}

func states() []int {
	return []int{api.KReceived, api.KAccepted, api.KRejected, api.KReleased, api.KModified, api.KDeclared, api.KTransactional}
}
